/- A list of fields in memory: read, new rows, append. Two fields, two entries compared. Small calls that only read: Valid, the document's Valid and Has, Same, cmp.Compare. -/
import Derived.Test.YtminfpkigenahaaGreatDoorBaseM
import Derived.Test.YtminfpkigenahaaGreatDoorFixMathM
import Derived.Deep.DeepAppendWide
import Derived.DeepKeys
section
namespace Go.Proofs.YtminfpkigenahaaGreatDoor.FRow
open Go.RowKit Go.Sort
open Go.Proofs.YtminfpkigenahaaGreatDoor.SetMath
open Go.Proofs.YtminfpkigenahaaGreatDoor.ValueMath
open Go.Proofs.YtminfpkigenahaaGreatDoor.Base (bs mk len_bs bs_mk mk_bs mk_size mk_inj mk_list hid_of lt_of set_at set_ne size_set)
set_option linter.unusedVariables false
set_option linter.unusedSimpArgs false
abbrev EN := Bs × Bs
abbrev LL := List EN
abbrev big : Nat := 7000000000000
theorem bdrew {B : Nat} {w w' : World} (h : Below B w w') (n : Nat) : Below B w (w'.drewN n) := ⟨h.os, h.tape, h.output, h.size, h.block⟩
theorem bel {B : Nat} {a b c : World} (h : Below B a b) (k : Below b.heap.size b c) (hB : B ≤ a.heap.size) : Below B a c := h.trans (k.mono (Nat.le_trans hB h.size))
theorem bnew (w : World) (o : Obj) : Below w.heap.size w (w.alloc o) := (Below.refl _ w).alloc (Nat.le_refl _) o
theorem cell_blk {w : World} {a : Addr} {v : Value} (h : w.cell? a = some v) : ∃ cs t fz, w.heap[a.block]? = some (.cells cs t fz) := by
  unfold World.cell? at h
  cases e : w.heap[a.block]? with
  | none => rw [e] at h; simp at h
  | some o =>
    cases o with
    | cells cs t fz => exact ⟨cs, t, fz, rfl⟩
    | _ => rw [e] at h; simp at h
theorem cell_on {w w' : World} (hb : Below w.heap.size w w') {a : Addr} {x : Value} (h : w.cell? a = some x) : w'.cell? a = some x := by
  obtain ⟨cs, t, fz, hk⟩ := cell_blk h
  rw [hb.cell (lt_of hk)]
  exact h

def eCells (p : EN) : List Value := [.string (mk p.1), .string (mk p.2)]
def eAt (w : World) (g o : Nat) (l : LL) : Prop := ∀ k (h : k < l.length), w.cell? ⟨g, o + k * 2, none⟩ = some (.string (mk (l[k]'h).1)) ∧ w.cell? ⟨g, o + k * 2 + 1, none⟩ = some (.string (mk (l[k]'h).2))
def FS (w : World) (v : Value) (l : LL) : Prop := ∃ a c, v = .slice a l.length c ∧ l.length ≤ c ∧ (l = [] ∨ ∃ g o, a = some ⟨g, o, none⟩ ∧ eAt w g o l)
theorem FS.keep {w w' : World} {v : Value} {l : LL} (h : FS w v l) (hk : ∀ a x, w.cell? a = some x → w'.cell? a = some x) : FS w' v l := by
  obtain ⟨a, c, rfl, hc, h⟩ := h
  refine ⟨a, c, rfl, hc, h.imp id ?_⟩
  rintro ⟨g, o, e, hc⟩
  exact ⟨g, o, e, fun k hk' => ⟨hk _ _ (hc k hk').1, hk _ _ (hc k hk').2⟩⟩
theorem FS.below {w w' : World} {v : Value} {l : LL} (h : FS w v l) (hb : Below w.heap.size w w') : FS w' v l := h.keep (fun a x hx => cell_on hb hx)
theorem fflat_len (l : LL) : (l.flatMap eCells).length = l.length * 2 := by
  induction l with
  | nil => rfl
  | cons f r ih => rw [List.flatMap_cons, List.length_append, ih, List.length_cons]; simp [eCells]; omega
theorem fflat_at : ∀ (l : LL) (k : Nat) (h : k < l.length), (l.flatMap eCells)[k * 2]? = some (.string (mk (l[k]'h).1)) ∧ (l.flatMap eCells)[k * 2 + 1]? = some (.string (mk (l[k]'h).2))
  | f :: r, 0, h => ⟨rfl, rfl⟩
  | f :: r, k + 1, h => by
    have ih := fflat_at r k (by simpa using h)
    have e : ∀ i, ((f :: r).flatMap eCells)[(k + 1) * 2 + i]? = (r.flatMap eCells)[k * 2 + i]? := fun i => by
      rw [List.flatMap_cons, List.getElem?_append_right (by simp [eCells]; omega)]
      congr 1
      simp [eCells]
      omega
    exact ⟨(e 0).trans ih.1, (e 1).trans ih.2⟩
abbrev OR (B : Nat) (w : World) (v : Value) (l : LL) : Prop := w.ownsRow B 66 2 v l.length (l.flatMap eCells)
theorem fs_row {B : Nat} {w : World} {l : LL} {v : Value} (h : OR B w v l) : FS w v l := by
  rcases h.2 with ⟨rfl, h0⟩ | ⟨g, cap, cur, rfl, hb, hg, q1, q2, q3, q4⟩
  · have : l = [] := List.length_eq_zero_iff.1 h0
    subst this
    exact ⟨none, 0, rfl, Nat.le_refl _, Or.inl rfl⟩
  · refine ⟨_, cap, rfl, q1, Or.inr ⟨g, 0, rfl, fun k hk => ?_⟩⟩
    obtain ⟨d0, d1⟩ := fflat_at l k hk
    have c0 := h.cellAt (k * 2) (by omega)
    have c1 := h.cellAt (k * 2 + 1) (by omega)
    rw [Nat.zero_add]
    exact ⟨c0.trans d0, c1.trans d1⟩
theorem row_later {w w' : World} {base e sz n : Nat} {v : Value} {xs : List Value} (h : w.ownsRow base e sz v n xs) (hk : ∀ g cs t fz, v.ownBlock = some g → w.heap[g]? = some (.cells cs t fz) → t = e → w'.heap[g]? = w.heap[g]?) : w'.ownsRow base e sz v n xs := by
  refine ⟨h.1, ?_⟩
  rcases h.2 with hn | ⟨g, cap, cur, rfl, hb, hg, rest⟩
  · exact Or.inl hn
  · exact Or.inr ⟨g, cap, cur, rfl, hb, (hk g _ _ _ rfl hg rfl).trans hg, rest⟩
theorem row_below {w w' : World} {base e sz n : Nat} {v : Value} {xs : List Value} (h : w.ownsRow base e sz v n xs) (hb : Below w.heap.size w w') : w'.ownsRow base e sz v n xs := row_later h (fun g cs t fz _ hg _ => hb.block g (lt_of hg))
theorem row_mono {w : World} {B B' e sz n : Nat} {v : Value} {xs : List Value} (h : w.ownsRow B e sz v n xs) (hB : B' ≤ B) : w.ownsRow B' e sz v n xs := by
  refine ⟨h.1, h.2.imp id ?_⟩
  rintro ⟨g, cap, cur, rfl, hb, rest⟩
  exact ⟨g, cap, cur, rfl, Nat.le_trans hB hb, rest⟩
theorem or_nil (B : Nat) (w : World) : OR B w (.slice none 0 0) [] := World.ownsRow_nil _ _ _ _
def ca (a : Option Addr) (c i : Nat) : Option Addr := if c = i then a else a.map (·.add (i * 2))
theorem cut_lo (a : Option Addr) (n c i : Nat) (hi : i ≤ n) (w : World) : (Instr.slice 27 (.slice a n c) (some (.int .i64 (i : Int))) none none).run Tryz.prog w = .ok (.slice (ca a c i) (n - i) (c - i)) w := by
  have h1 : (i : Int) ≤ n := by omega
  simp [Instr.slice, run_underlying Tryz.underlying27, Instr.sliceBounds, run_sliceBound, ca, h1]
theorem cut_hi (a : Option Addr) (n c j : Nat) (hj : j ≤ c) (w : World) : (Instr.slice 27 (.slice a n c) none (some (.int .i64 (j : Int))) none).run Tryz.prog w = .ok (.slice a j c) w := by
  have h2 : (j : Int) ≤ c := by omega
  have h0 : (if c = 0 then a else a.map (·.add 0)) = a := by
    by_cases h : c = 0
    · rw [if_pos h]
    · rw [if_neg h]
      cases a with
      | none => rfl
      | some a => simp [Addr.add]
  simp [Instr.slice, run_underlying Tryz.underlying27, Instr.sliceBounds, run_sliceBound, h2, h0]
theorem cut_any (a : Option Addr) (n c i j : Nat) (hij : i ≤ j) (hj : j ≤ c) (w : World) : (Instr.slice 27 (.slice a n c) (some (.int .i64 (i : Int))) (some (.int .i64 (j : Int))) none).run Tryz.prog w = .ok (.slice (ca a c i) (j - i) (c - i)) w := by
  have h1 : (i : Int) ≤ j := by omega
  have h2 : (j : Int) ≤ c := by omega
  simp [Instr.slice, run_underlying Tryz.underlying27, Instr.sliceBounds, run_sliceBound, ca, h1, h2]
theorem FS.cap {w : World} {a : Option Addr} {n c : Nat} {l : LL} (h : FS w (.slice a n c) l) : n = l.length ∧ l.length ≤ c := by
  obtain ⟨a', c', e, hc, h⟩ := h
  injection e with e1 e2 e3
  subst e3
  exact ⟨e2, hc⟩
theorem FS.at {w : World} {a : Option Addr} {n c : Nat} {l : LL} (h : FS w (.slice a n c) l) {k : Nat} (hk : k < l.length) : ∃ g o, a = some ⟨g, o, none⟩ ∧ eAt w g o l := by
  obtain ⟨a', c', e, hc, h⟩ := h
  injection e with e1 e2 e3
  subst e1
  rcases h with rfl | h
  · simp at hk
  · exact h
theorem FS.take {w : World} {a : Option Addr} {c : Nat} {l : LL} (h : FS w (.slice a l.length c) l) (j : Nat) (hj : j ≤ l.length) : FS w (.slice a j c) (l.take j) := by
  obtain ⟨a', c', e, hc, hfs⟩ := h
  injection e with e1 _ e3
  subst e1 e3
  have hl : (l.take j).length = j := by rw [List.length_take]; omega
  refine ⟨a, c, by rw [hl], by omega, ?_⟩
  rcases hfs with rfl | ⟨g, o, rfl, hq⟩
  · exact Or.inl (by simp)
  · refine Or.inr ⟨g, o, rfl, fun k hk => ?_⟩
    rw [List.getElem_take]
    exact hq k (by omega)
theorem FS.drop {w : World} {a : Option Addr} {c : Nat} {l : LL} (h : FS w (.slice a l.length c) l) (i : Nat) (hi : i ≤ l.length) : FS w (.slice (ca a c i) (l.length - i) (c - i)) (l.drop i) := by
  obtain ⟨a', c', e, hc, hfs⟩ := h
  injection e with e1 _ e3
  subst e1 e3
  have hl : (l.drop i).length = l.length - i := List.length_drop
  refine ⟨ca a c i, c - i, by rw [hl], by omega, ?_⟩
  by_cases hd : l.drop i = []
  · exact Or.inl hd
  · have hp : 0 < (l.drop i).length := List.length_pos_iff.2 hd
    rw [hl] at hp
    rcases hfs with rfl | ⟨g, o, rfl, hq⟩
    · simp at hp
    · refine Or.inr ⟨g, o + i * 2, ?_, fun k hk => ?_⟩
      · unfold ca
        rw [if_neg (by omega)]
        show some ((⟨g, o, none⟩ : Addr).add (i * 2)) = _
        rw [Addr.add_lit]
      · rw [List.getElem_drop]
        have := hq (i + k) (by omega)
        rw [show o + (i + k) * 2 = o + i * 2 + k * 2 from by omega] at this
        exact this
theorem parts_of {t : TypeId} {z : Value} {n m : Nat} (h : (Tryz.prog.info? t).map (fun i => (i.zero, i.size, i.bytes)) = some (some z, n, m)) : ∃ i, Tryz.prog.info? t = some i ∧ i.zero = some z ∧ i.size = n ∧ i.bytes = m := by
  cases e : Tryz.prog.info? t with
  | none => rw [e] at h; cases h
  | some i =>
    rw [e] at h
    simp at h
    exact ⟨i, rfl, h.1, h.2.1, h.2.2⟩
theorem info_sc : (Tryz.prog.info? 66).map (fun i => (i.zero, i.size, i.bytes)) = some (some (.agg #[.string ⟨#[]⟩, .string ⟨#[]⟩]), 2, 32) := by kernel_rfl
theorem one_all (xs : LL) : ∀ u ∈ xs.flatMap eCells, u.oneCell' = true := by
  intro u hu
  obtain ⟨p, hp, h⟩ := List.mem_flatMap.1 hu
  simp only [eCells, List.mem_cons, List.not_mem_nil, or_false] at h
  rcases h with rfl | rfl <;> rfl
theorem fs_news {w : World} {g o : Nat} {l : LL} (h : eAt w g o l) : ∀ j u, (l.flatMap eCells)[j]? = some u → w.cell? ((⟨g, o, none⟩ : Addr).add j) = some u := fun j u hj => by
  have hlt : j < (l.flatMap eCells).length := (List.getElem?_eq_some_iff.1 hj).1
  rw [fflat_len] at hlt
  have hk : j / 2 < l.length := by omega
  obtain ⟨d0, d1⟩ := fflat_at l (j / 2) hk
  obtain ⟨c0, c1⟩ := h (j / 2) hk
  rw [Addr.add_lit]
  rcases Nat.mod_two_eq_zero_or_one j with e | e
  · have e2 : j = j / 2 * 2 := by omega
    rw [e2, d0] at hj
    rw [e2, c0]
    exact hj
  · have e2 : j = j / 2 * 2 + 1 := by omega
    rw [e2, d1] at hj
    rw [e2, show o + (j / 2 * 2 + 1) = o + j / 2 * 2 + 1 from by omega, c1]
    exact hj
theorem app_nil (a : Option Addr) (c : Nat) (w : World) : (Builtin.append_ #[27, 27] 27 #[.slice none 0 0, .slice a 0 c]).run Tryz.prog w = .ok (.slice none 0 0) w := by
  cases a with
  | none => kernel_rfl
  | some a => kernel_rfl
theorem append_fs (B : Nat) (w : World) (v u : Value) (xs ys : LL) (h : OR B w v xs) (hu : FS w u ys) (hb : B ≤ w.heap.size) (hn : xs.length + ys.length ≤ big) :
    ∃ v' w', (Builtin.append_ #[27, 27] 27 #[v, u]).run Tryz.prog w = .ok v' w' ∧ OR B w' v' (xs ++ ys) ∧ w.grownBy w' v.ownBlock := by
  obtain ⟨i, hi, hz0, hz1, hz2⟩ := parts_of info_sc
  obtain ⟨a, c, rfl, hc, hq⟩ := hu
  by_cases he : ys = []
  · subst he
    rw [List.append_nil]
    rcases h.2 with ⟨rfl, h0⟩ | ⟨g, cap, cur, rfl, hbg, hg, q1, q2, q3, q4⟩
    · exact ⟨_, w, app_nil a c w, h, ⟨rfl, rfl, rfl, Nat.le_refl _, fun _ _ _ => rfl⟩⟩
    · have hsrc : Src Tryz.prog i.size 27 (.slice a 0 c) 0 [] w := by
        cases a with
        | none => exact Src.ofNil w Tryz.underlying27 c
        | some a => exact Src.ofSlice w Tryz.underlying27 a 0 c [] (by simp) (fun j u hj => by simp at hj) (fun u hu => by cases hu)
      have hr := run_append_room_src (P := Tryz.prog) w 27 27 27 66 i Tryz.underlying27 hi g 0 xs.length cap (.slice a 0 c) 0 [] hsrc (by omega) (fun j hj => by simp at hj) (fun j hj => by simp at hj)
      refine ⟨.slice (some ⟨g, 0, none⟩) xs.length cap, w, ?_, h, ⟨rfl, rfl, rfl, Nat.le_refl _, fun _ _ _ => rfl⟩⟩
      rw [show ([] : LL).length = 0 from rfl, hr]
      simp [World.setCells]
  · rcases hq with hq | ⟨g, o, rfl, hq⟩
    · exact absurd hq he
    · obtain ⟨v', w', hr, ho, hg, _⟩ := run_append_own_wide (P := Tryz.prog) w B 27 27 66 i _ 2 32 Tryz.underlying27 hi hz0 hz1 hz2 rfl (by decide) v xs.length (xs.flatMap eCells) h ⟨g, o, none⟩ ys.length c (ys.flatMap eCells) (fflat_len ys) (fs_news hq) (one_all ys) (by unfold maxLen; unfold big at hn; omega) (by unfold big at hn; omega) hb
      refine ⟨v', w', hr, ?_, hg⟩
      show w'.ownsRow B _ 2 v' (xs ++ ys).length ((xs ++ ys).flatMap eCells)
      rw [List.length_append, List.flatMap_append]
      exact ho
structure Bd (w1 : World) (v : Value) (xs : LL) (w : World) : Prop where
  row : OR w1.heap.size w v xs
  bel : Below w1.heap.size w1 w
theorem bd_start (w : World) : Bd w (.slice none 0 0) [] w := ⟨or_nil _ _, Below.refl _ _⟩
theorem Bd.below {w1 W W' : World} {xs : LL} {v : Value} (h : Bd w1 v xs W) (hb : Below W.heap.size W W') : Bd w1 v xs W' := ⟨row_below h.row hb, FRow.bel h.bel hb (Nat.le_refl _)⟩
theorem bd_app {w1 W : World} {xs : LL} {v : Value} (h : Bd w1 v xs W) (u : Value) (ys : LL) (hu : FS W u ys) (hn : xs.length + ys.length ≤ big) :
    ∃ v' W', (Builtin.append_ #[27, 27] 27 #[v, u]).run Tryz.prog W = .ok v' W' ∧ Bd w1 v' (xs ++ ys) W' := by
  obtain ⟨v', W', hr, ho, hg⟩ := append_fs w1.heap.size W v u xs ys h.row hu h.bel.size hn
  exact ⟨v', W', hr, ho, h.bel.grown hg h.bel.size (fun k hk => (h.row.lt k hk).1)⟩
theorem fs_one (w : World) (e : EN) : FS (w.alloc (.cells #[.string (mk e.1), .string (mk e.2)] 66)) (.slice (some ⟨w.heap.size, 0, none⟩) 1 1) [e] := by
  refine ⟨_, 1, rfl, Nat.le_refl _, Or.inr ⟨w.heap.size, 0, rfl, fun k hk => ?_⟩⟩
  have h := heap_alloc_new w (.cells #[.string (mk e.1), .string (mk e.2)] 66)
  match k, hk with
  | 0, _ => exact ⟨by rw [Lib.cell_of_heap h]; rfl, by rw [Lib.cell_of_heap h]; rfl⟩

end Go.Proofs.YtminfpkigenahaaGreatDoor.FRow
end
section
namespace Go.Proofs.YtminfpkigenahaaGreatDoor.Neq
open Go.RowKit Go.Maps
open Go.Proofs.YtminfpkigenahaaGreatDoor.SetMath
open Go.Proofs.YtminfpkigenahaaGreatDoor.Base

set_option maxRecDepth 100000 in
theorem eqS (n : Nat) (a c : ByteArray) (b d : Int) (w : World) : (Op.equalIn (n + 2) 69 (.agg #[.string a, .int .i64 b]) (.agg #[.string c, .int .i64 d])).run Tryz.prog w = .ok (a == c && b == d) w := by
  have h0 : Tryz.prog.stoodInHeld 69 = false := by kernel_rfl
  have hp : ∀ (x : ByteArray) (y : Int), (part 9 #[.string x, .int .i64 y] 0).run Tryz.prog w = .ok (.string x) w := fun x y => by kernel_rfl
  have hq : ∀ (x : ByteArray) (y : Int), (part 3 #[.string x, .int .i64 y] 1).run Tryz.prog w = .ok (.int .i64 y) w := fun x y => by kernel_rfl
  have he : ∀ x y : ByteArray, (Op.equalIn (n + 1) 9 (.string x) (.string y)).run Tryz.prog w = .ok (x == y) w := fun x y => by simp [Op.equalIn, run_underlying Tryz.underlying9]
  have hi : ∀ x y : Int, (Op.equalIn (n + 1) 3 (.int .i64 x) (.int .i64 y)).run Tryz.prog w = .ok (x == y) w := fun x y => by simp [Op.equalIn, run_underlying Tryz.underlying3]
  rw [run_equalIn_struct w (n + 1) 69 _ _ (by simp [Program.fieldsOf, Tryz.underlying69]) h0]
  simp [Program.fieldsOf, Tryz.underlying69, Op.eqFields, hp, hq, he, hi]
  cases (a == c) <;> by_cases h : b = d <;> simp [h]
set_option maxRecDepth 100000 in
theorem eqF (n : Nat) (a b c d : ByteArray) (w : World) : (Op.equalIn (n + 2) 66 (.agg #[.string a, .string b]) (.agg #[.string c, .string d])).run Tryz.prog w = .ok (a == c && b == d) w := by
  have h0 : Tryz.prog.stoodInHeld 66 = false := by kernel_rfl
  have hp : ∀ x y : ByteArray, (part 9 #[.string x, .string y] 0).run Tryz.prog w = .ok (.string x) w := fun x y => by kernel_rfl
  have hq : ∀ x y : ByteArray, (part 9 #[.string x, .string y] 1).run Tryz.prog w = .ok (.string y) w := fun x y => by kernel_rfl
  have he : ∀ x y : ByteArray, (Op.equalIn (n + 1) 9 (.string x) (.string y)).run Tryz.prog w = .ok (x == y) w := fun x y => by simp [Op.equalIn, run_underlying Tryz.underlying9]
  rw [run_equalIn_struct w (n + 1) 66 _ _ (by simp [Program.fieldsOf, Tryz.underlying66]) h0]
  simp [Program.fieldsOf, Tryz.underlying66, Op.eqFields, hp, hq, he]
  cases (a == c) <;> cases (b == d) <;> rfl
theorem bts_eq (x y : ByteArray) : (x == y) = (bs x == bs y) := by
  cases x; cases y
  rename_i a b
  rw [Bool.eq_iff_iff]
  constructor
  · intro h
    have : (ByteArray.mk a) = ByteArray.mk b := by
      have h' : (a == b) = true := h
      rw [eq_of_beq h']
    injection this with this
    simp [bs, this]
  · intro h
    have : a.toList = b.toList := eq_of_beq h
    have e : a = b := by cases a; cases b; simpa using this
    show (a == b) = true
    rw [e]; simp
theorem neqF (p q : Bs × Bs) (w : World) : (binOp .neq 66 (.agg #[.string (mk p.1), .string (mk p.2)]) (.agg #[.string (mk q.1), .string (mk q.2)])).run Tryz.prog w = .ok (.bool (decide (p ≠ q))) w := by
  have h := eqF 9998 (mk p.1) (mk p.2) (mk q.1) (mk q.2) w
  rw [bts_eq, bts_eq, bs_mk, bs_mk, bs_mk, bs_mk] at h
  have e : (p.1 == q.1 && p.2 == q.2) = decide (p = q) := by cases p; cases q; rw [Bool.eq_iff_iff]; simp
  rw [e] at h
  have h2 : (Op.equal 66 (.agg #[.string (mk p.1), .string (mk p.2)]) (.agg #[.string (mk q.1), .string (mk q.2)])).run Tryz.prog w = .ok (decide (p = q)) w := h
  simp [binOp, h2]
theorem eq_run (p q : Bs × Int) (w : World) : (Op.equal 69 (.agg #[.string (mk p.1), .int .i64 p.2]) (.agg #[.string (mk q.1), .int .i64 q.2])).run Tryz.prog w = .ok (decide (p = q)) w := by
  have h := eqS 9998 (mk p.1) (mk q.1) p.2 q.2 w
  rw [bts_eq, bs_mk, bs_mk] at h
  have e : (p.1 == q.1 && p.2 == q.2) = decide (p = q) := by cases p; cases q; rw [Bool.eq_iff_iff]; simp
  rw [e] at h
  exact h
theorem neqE (p q : Bs × Int) (w : World) : (binOp .neq 69 (.agg #[.string (mk p.1), .int .i64 p.2]) (.agg #[.string (mk q.1), .int .i64 q.2])).run Tryz.prog w = .ok (.bool (decide (p ≠ q))) w := by
  have h2 := eq_run p q w
  simp [binOp, h2]
end Go.Proofs.YtminfpkigenahaaGreatDoor.Neq
end
section
namespace Go.Proofs.YtminfpkigenahaaGreatDoor.Small
open Go.RowKit Go.Sort
open Go.Proofs.YtminfpkigenahaaGreatDoor.SetMath
open Go.Proofs.YtminfpkigenahaaGreatDoor.Base
set_option linter.unusedVariables false
set_option linter.unusedSimpArgs false
theorem adj_ris : ∀ {l : List Bs}, (∀ k (h : k + 1 < l.length), l[k] < l[k + 1]) → Ris l
  | [], _ => List.Pairwise.nil
  | [x], _ => List.pairwise_singleton _ _
  | x :: y :: r, h => by
    have ih : Ris (y :: r) := adj_ris (l := y :: r) fun k hk => h (k + 1) (by simpa using hk)
    have h0 : x < y := h 0 (by simp)
    refine List.pairwise_cons.2 ⟨fun z hz => ?_, ih⟩
    rcases List.mem_cons.1 hz with rfl | hz
    · exact h0
    · exact List.lt_trans h0 (ih.head z hz)
set_option maxHeartbeats 1000000 in
set_option maxRecDepth 100000 in
theorem valid_call {G : Nat → Prop} {w : World} {v : Value} {l : List El} (h : SL G w v l) (hb : l.length ≤ 140737488355328) :
    Calls Tryz.prog 235 #[v] w fun e w' => e = .returned (.bool (decide (Ris l))) ∧ ∃ m, w' = w.drewN m := by
  obtain ⟨a, c, rfl, hc, hr⟩ := h
  have H1 := hid_of hr
  obtain ⟨L, HL⟩ : ∃ L, Hid (L = l.length) := ⟨_, hid_of rfl⟩
  rw [← HL.out] at hb ⊢
  clear hr hc
  go_enter Tryz.func235, Tryz.ntmps235
  go_wp2_with fail
  go_loopg [3] L (fun g s3 wx => ∃ j : Nat, (j + 1 ≤ L ∨ j = 0) ∧ L ≤ j + g ∧ s3 = .int .i64 ((j : Int) + 1) ∧ Hid (∀ k (h : k + 1 < l.length), k < j → l[k] < l[k + 1]) ∧ Hid (∃ m, wx = w.drewN m))
  case atStart => exact ⟨0, by omega, by omega, rfl, fun k _ hk => by omega, 0, rfl⟩
  case round =>
    obtain ⟨j, hj, hg, rfl, HA, R⟩ := hrel
    by_cases hlt : j + 1 < L
    · obtain ⟨g', rfl⟩ : ∃ g', gk = g' + 1 := ⟨gk - 1, by omega⟩
      have hjl : j + 1 < l.length := by rw [← HL.out]; exact hlt
      obtain ⟨g1, o1, rfl, _, q1⟩ := Rd.get H1.out (by omega)
      have c1 : wr.cell? ⟨g1, o1 + j, none⟩ = some (.string (mk l[j])) := by obtain ⟨m, rfl⟩ := R.out; exact q1 j _ (List.getElem?_eq_getElem (by omega))
      have c2 : wr.cell? ⟨g1, o1 + (j + 1), none⟩ = some (.string (mk l[j + 1])) := by obtain ⟨m, rfl⟩ := R.out; exact q1 (j + 1) _ (List.getElem?_eq_getElem hjl)
      have HN : Hid (l[j] < l[j + 1] → ∀ k (h : k + 1 < l.length), k < j + 1 → l[k] < l[k + 1]) := hid_of fun q k hk hk2 => by
        by_cases e : k = j
        · subst e; exact q
        · exact HA.out k hk (by omega)
      have HF : Hid (¬ l[j] < l[j + 1] → decide (Ris l) = false) := hid_of fun q => decide_eq_false fun r => q (ris_at r (by omega) hjl)
      have hlx := str_lt l[j] l[j + 1]
      generalize l[j] = x at *
      generalize l[j + 1] = y at *
      have w1 : IntKind.i64.wrap ((j : Int) + 1) = (j : Int) + 1 := IntWalk.i64_in _ (by omega)
      have w2 : IntKind.i64.wrap ((j : Int) + 1 + 1) = (j : Int) + 1 + 1 := IntWalk.i64_in _ (by omega)
      have w3 : IntKind.i64.wrap ((j : Int) + 1 - 1) = (j : Int) := by rw [show (j : Int) + 1 - 1 = (j : Int) by omega]; exact IntWalk.i64_in _ (by omega)
      have d1 : (j : Int) + 1 < (L : Int) := by omega
      have d2 : j < L := by omega
      clear q1
      by_cases hxy : x < y
      · rw [decide_eq_true hxy] at hlx
        have HN2 := hid_of (HN.out hxy)
        clear hxy HN HF
        generalize mk x = X at *
        generalize mk y = Y at *
        go_wp2_with fail
        go_quiet (fail)
        go_wp2_with fail
        go_roundg g'
        case measure => omega
        case rel => exact ⟨j + 1, by omega, by omega, by simp, HN2, by obtain ⟨m, e⟩ := R.out; exact ⟨m + nq, by rw [e, World.drewN_drewN]⟩⟩
      · rw [decide_eq_false hxy] at hlx
        have HF2 := hid_of (HF.out hxy)
        clear hxy HN HF
        generalize mk x = X at *
        generalize mk y = Y at *
        go_wp2_with fail
        go_quiet (fail)
        go_wp2_with fail
        go_ret
        exact ⟨ret_b HF2.out.symm, by obtain ⟨m, e⟩ := R.out; exact ⟨m + nq, by rw [e, World.drewN_drewN]⟩⟩
    · have d1 : ¬ (j : Int) + 1 < (L : Int) := by omega
      have HT : Hid (decide (Ris l) = true) := hid_of (decide_eq_true (adj_ris fun k hk => HA.out k hk (by have := HL.out; omega)))
      go_wp2_with fail
      go_ret
      exact ⟨ret_b HT.out.symm, R.out⟩
def ord (x y : Bs) : Int := if x < y then -1 else if y < x then 1 else 0
set_option maxRecDepth 100000 in
theorem nan_call (x : ByteArray) (w : World) : Calls Tryz.prog 155 #[.string x] w fun e w' => e = .returned (.bool false) ∧ w' = w := by
  go_enter Tryz.func155, Tryz.ntmps155
  go_wp2
  go_ret
  exact ⟨by simp, rfl⟩
set_option maxRecDepth 100000 in
theorem cmp_call (x y : Bs) (w : World) : Calls Tryz.prog 246 #[V x, V y] w fun e w' => e = .returned (.int .i64 (ord x y)) ∧ w' = w := by
  have h1 := str_lt x y
  have h2 := str_eq x y
  have N1 := hid_of (nan_call (mk x) w)
  have N2 := hid_of (nan_call (mk y) w)
  show Calls Tryz.prog 246 #[.string (mk x), .string (mk y)] w _
  unfold ord
  rcases lt_tot x y with q | q | q
  · rw [if_pos q]
    rw [decide_eq_true q] at h1
    rw [decide_eq_false (lt_ne q)] at h2
    clear q
    generalize mk x = X at *
    generalize mk y = Y at *
    go_enter Tryz.func246, Tryz.ntmps246
    go_wp2_with fail
    refine N1.out.mono ?_
    rintro e w1 ⟨rfl, rfl⟩
    go_wp2_with fail
    refine N2.out.mono ?_
    rintro e w1 ⟨rfl, rfl⟩
    go_wp2_with fail
    go_ret
    exact ⟨rfl, rfl⟩
  · rw [q, if_neg (List.lt_irrefl y), if_neg (List.lt_irrefl y)]
    rw [q, decide_eq_false (List.lt_irrefl y)] at h1
    rw [decide_eq_true q, q] at h2
    rw [q] at N1
    clear q
    generalize mk y = Y at *
    go_enter Tryz.func246, Tryz.ntmps246
    go_wp2_with fail
    refine N1.out.mono ?_
    rintro e w1 ⟨rfl, rfl⟩
    go_wp2_with fail
    refine N2.out.mono ?_
    rintro e w1 ⟨rfl, rfl⟩
    go_wp2_with fail
    go_ret
    exact ⟨rfl, rfl⟩
  · rw [if_neg (lt_not q), if_pos q]
    rw [decide_eq_false (lt_not q)] at h1
    rw [decide_eq_false (lt_ne q).symm] at h2
    clear q
    generalize mk x = X at *
    generalize mk y = Y at *
    go_enter Tryz.func246, Tryz.ntmps246
    go_wp2_with fail
    refine N1.out.mono ?_
    rintro e w1 ⟨rfl, rfl⟩
    go_wp2_with fail
    refine N2.out.mono ?_
    rintro e w1 ⟨rfl, rfl⟩
    go_wp2_with fail
    go_ret
    exact ⟨rfl, rfl⟩
end Go.Proofs.YtminfpkigenahaaGreatDoor.Small
end
