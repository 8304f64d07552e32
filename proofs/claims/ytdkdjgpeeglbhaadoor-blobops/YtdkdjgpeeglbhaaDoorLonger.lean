/- The document's longer: bytes of a text with zeros behind them. -/
import Derived.Test.YtdkdjgpeeglbhaaDoorMem
import Derived.Deep.AppendSrc
import Derived.Deep.LoopGhost
import Derived.Laws.IdiomStrings
namespace Go.Proofs.YtdkdjgpeeglbhaaDoor.Longer
open Go.RowKit
open Go.Proofs.YtdkdjgpeeglbhaaDoor.BlobMath
open Go.Proofs.YtdkdjgpeeglbhaaDoor.Span
open Go.Proofs.YtdkdjgpeeglbhaaDoor.Bits
open Go.Proofs.YtdkdjgpeeglbhaaDoor.Reads
open Go.Proofs.YtdkdjgpeeglbhaaDoor.Mem
set_option linter.unusedVariables false
set_option linter.unusedSimpArgs false

theorem add_off (g o k : Nat) : (⟨g, o, none⟩ : Addr).add k = ⟨g, o + k, none⟩ := by
  unfold Addr.add
  by_cases h : k = 0
  · subst h; simp
  · simp [h]
/-- a row with room for cap bytes that holds l -/
def GR (w : World) (g cap : Nat) (l : List UInt8) : Prop :=
  ∃ cs fz, w.heap[g]? = some (.cells cs 5 fz) ∧ cap ≤ cs.size ∧ (fz = (0, 0) ∨ fz = (cs.size, cs.size + 1)) ∧ l.length ≤ cap ∧ ∀ k, k < l.length → w.cell? ⟨g, k, none⟩ = some (.int .u8 (at8 l k : Nat))
theorem GR.free {w : World} {g : Nat} {cs : Array Value} {fz : Nat × Nat} (h : w.heap[g]? = some (.cells cs 5 fz)) (hz : fz = (0, 0) ∨ fz = (cs.size, cs.size + 1)) (k : Nat) (hk : k < cs.size) : w.frozen? ⟨g, k, none⟩ = false := by
  rcases hz with rfl | rfl
  · simp [World.frozen?, h]
  · simp [World.frozen?, h]; omega
theorem GR.row {w : World} {g cap : Nat} {l : List UInt8} (h : GR w g cap l) : BRow w g l := by
  obtain ⟨cs, fz, h1, h2, h3, h4, h5⟩ := h
  exact ⟨h5, fun k hk => GR.free h1 h3 k (by omega)⟩
theorem GR.keep {w w' : World} {g cap B : Nat} {l : List UInt8} (h : GR w g cap l) (b : Below B w w') (hg : g < B) : GR w' g cap l := by
  obtain ⟨cs, fz, h1, h2, h3, h4, h5⟩ := h
  exact ⟨cs, fz, (b.block g hg).trans h1, h2, h3, h4, fun k hk => (b.cell (p := ⟨g, k, none⟩) hg).trans (h5 k hk)⟩
theorem GR.lt {w : World} {g cap : Nat} {l : List UInt8} (h : GR w g cap l) : g < w.heap.size := by
  obtain ⟨cs, fz, h1, _⟩ := h
  exact (Array.getElem?_eq_some_iff.1 h1).1
theorem new_cell (w : World) (cs : Array Value) (e : TypeId) (fz : Nat × Nat) (j : Nat) : (w.drew.alloc (.cells cs e fz)).cell? ⟨w.heap.size, j, none⟩ = cs[j]? := Lib.cell_of_heap (heap_alloc_new w.drew (.cells cs e fz)) j
theorem bytes_of (w : World) (s : ByteArray) : ∃ cap w', (convert 9 54 (.string s)).run Tryd.prog w = .ok (.slice (some ⟨w.heap.size, 0, none⟩) s.size cap) w' ∧ GR w' w.heap.size cap (txt s) ∧ Below w.heap.size w w' := by
  have hr := run_bytes_of_string (P := Tryd.prog) w 9 54 5 s Tryd.underlying9 Tryd.underlying54 Tryd.underlying5
  refine ⟨_, _, hr, ?_, (Below.refl _ w).drew.alloc (Nat.le_refl _) _⟩
  have hge := grownCap_ge w s.size 0 5
  have hl : (txt s).length = s.size := by simp [txt]
  have hsz : (bytesRow s (grownCap w s.size 0 5)).size = grownCap w s.size 0 5 := by
    unfold bytesRow
    rw [Array.size_append, Array.size_map, Array.size_replicate]
    show s.size + _ = _
    omega
  refine ⟨bytesRow s (grownCap w s.size 0 5), _, heap_alloc_new w.drew _, by rw [hsz]; exact Nat.le_refl _, Or.inr rfl, by omega, fun k hk => ?_⟩
  rw [new_cell]
  unfold bytesRow
  rw [hl] at hk
  rw [Array.getElem?_append_left (by rw [Array.size_map]; exact hk), Array.getElem?_map, at8_in (by omega)]
  have : s.data[k]? = some (txt s)[k] := by
    rw [Array.getElem?_eq_getElem (by exact hk)]; simp [txt]
  rw [this]; rfl
theorem set_at {w : World} {b i : Nat} {cs : Array Value} {ty : TypeId} {fz : Nat × Nat} (h : w.heap[b]? = some (.cells cs ty fz)) (v : Value) : (w.setCell ⟨b, i, none⟩ v).heap[b]? = some (.cells (cs.setIfInBounds i v) ty fz) := by
  rw [setCell_eq_setRow w b i cs ty fz v h]
  exact setRow_heap w b cs _ ty _ h
theorem cellsB_at (l : List UInt8) (j : Nat) (h : j < l.length) : (cellsB l)[j]? = some (.int .u8 (at8 l j : Nat)) := by
  have h' : j < (cellsB l).length := by simpa [cellsB] using h
  rw [List.getElem?_eq_getElem h', cellsB_get]
theorem at8_snoc (l : List UInt8) (c : UInt8) (k : Nat) (hk : k < l.length + 1) : at8 (l ++ [c]) k = if k < l.length then at8 l k else c.toNat := by
  by_cases h : k < l.length
  · rw [if_pos h, at8_in h, at8_in (by simp; omega)]; simp [h]
  · rw [if_neg h, at8_in (by simp; omega)]
    have : k = l.length := by omega
    subst this; simp
theorem app_zero {w : World} {g cap b B : Nat} {l : List UInt8} (h : GR w g cap l) (hb : w.cell? ⟨b, 0, none⟩ = some (.int .u8 0)) (ty : TypeId) (hl : l.length ≤ 1048576) (hB : B ≤ g) (hB2 : B ≤ w.heap.size) :
    ∃ g' cap' w', (Builtin.append_ #[54, 54] ty #[.slice (some ⟨g, 0, none⟩) l.length cap, .slice (some ⟨b, 0, none⟩) 1 1]).run Tryd.prog w = .ok (.slice (some ⟨g', 0, none⟩) (l.length + 1) cap') w' ∧ GR w' g' cap' (l ++ [0]) ∧ B ≤ g' ∧ Below B w w' := by
  obtain ⟨cs, fz, h1, h2, h3, h4, h5⟩ := h
  obtain ⟨i, hi, hz0, hz1, hz2⟩ := info_parts info5
  have hs : Src Tryd.prog i.size 54 (.slice (some ⟨b, 0, none⟩) 1 1) 1 [.int .u8 0] w := by
    rw [hz1]
    refine Src.ofSlice (P := Tryd.prog) w Tryd.underlying54 ⟨b, 0, none⟩ 1 1 [.int .u8 0] rfl (fun j u hj => ?_) (fun u hu => by simp at hu; subst hu; rfl)
    match j, hj with
    | 0, hj => simp at hj; subst hj; rw [add_off]; exact hb
  by_cases hroom : l.length + 1 ≤ cap
  · have hr := run_append_room_src (P := Tryd.prog) w 54 54 ty 5 i Tryd.underlying54 hi g 0 l.length cap _ 1 [.int .u8 0] hs hroom
      (fun j hj => by
        have : j = 0 := by simpa using hj
        subst this
        rw [Lib.cell_of_heap h1, hz1, Array.getElem?_eq_getElem (by omega)]; rfl)
      (fun j hj => by
        have : j = 0 := by simpa using hj
        subst this
        exact GR.free h1 h3 _ (by rw [hz1]; omega))
    have e0 : 0 + l.length * i.size = l.length := by rw [hz1]; omega
    rw [e0] at hr
    refine ⟨g, cap, _, hr, ⟨_, fz, set_at h1 _, by simpa using h2, by simpa using h3, by simpa using hroom, fun k hk => ?_⟩, hB, (Below.refl B w).setCell hB _⟩
    simp only [List.length_append, List.length_singleton] at hk
    show (w.setCell ⟨g, l.length, none⟩ (.int .u8 0)).cell? _ = _
    rw [at8_snoc l 0 k hk]
    by_cases q : k < l.length
    · rw [if_pos q, World.cell?_setCell_other w _ _ _ (by intro e; cases e; omega)]
      exact h5 k q
    · have : k = l.length := by omega
      subst this
      rw [if_neg q]
      exact World.cell?_setCell_same w _ _ (u := (cs[l.length]'(by omega))) (by rw [Lib.cell_of_heap h1, Array.getElem?_eq_getElem (by omega)])
  · have hcap : cap = l.length := by omega
    have hold : (Builtin.firstCells i.size l.length (.slice (some ⟨g, 0, none⟩) l.length cap)).run Tryd.prog w.drew = .ok (cellsB l).toArray w.drew := by
      refine run_firstCells_some (P := Tryd.prog) w.drew i.size l.length ⟨g, 0, none⟩ l.length cap (cellsB l) (by simp [cellsB, hz1]) ?_
      intro j y hj
      have hjl : j < l.length := by have := (List.getElem?_eq_some_iff.1 hj).1; simpa [cellsB] using this
      rw [cellsB_at l j hjl] at hj
      cases hj
      rw [add_off, Nat.zero_add]
      exact h5 j hjl
    have hr := run_append_grow_src (P := Tryd.prog) w 54 54 ty 5 i (.int .u8 0) Tryd.underlying54 hi hz0 (some ⟨g, 0, none⟩) l.length cap (cellsB l) hold _ 1 [.int .u8 0] hs (by omega) (by omega) (growslice_fits (by omega) (by rw [hz2]; omega))
    have hge := grownCap_ge w (l.length + 1) cap 5
    have hcl : (cellsB l).length = l.length := by simp [cellsB]
    refine ⟨_, _, _, hr, ⟨_, (0, 0), heap_alloc_new w.drew _, ?_, .inl rfl, ?_, fun k hk => ?_⟩, hB2, (Below.refl B w).drew.alloc hB2 _⟩
    · rw [Array.size_append, List.size_toArray, List.length_append, size_zeroCells, hcl]
      show _ ≤ _ + 1 + _ * 1
      omega
    · simpa using hge
    · simp only [List.length_append, List.length_singleton] at hk
      rw [new_cell, Array.getElem?_append_left (by rw [List.size_toArray, List.length_append, hcl]; exact hk), List.getElem?_toArray, at8_snoc l 0 k hk]
      by_cases q : k < l.length
      · rw [if_pos q, List.getElem?_append_left (by omega)]
        exact cellsB_at l k q
      · have : k = l.length := by omega
        subst this
        rw [if_neg q, List.getElem?_append_right (by omega), hcl]
        simp

section
variable {ops : Array Oper} {rest : List Oper} {o : Oper} {a : Act} {Q : Exit → Act → World → Prop}
theorem wpl_eq (hgd : o.guard = none) (s x : Operand) (t tx : TypeId) (ho : o.op = .call { callee := .builtin .append, args := #[s, x], argTypes := #[t, tx] }) (v u v' : Value) (W W' : World) (hs : a.eval s = v) (hx : a.eval x = u)
    (hr : (Builtin.append_ #[t, tx] o.type #[v, u]).run Tryd.prog W = .ok v' W') (hK : wpList Tryd.prog ops Q rest (a.put o.dst v') W') : wpList Tryd.prog ops Q (o :: rest) a W := by
  refine wpList_plain hgd fun K hK2 => ?_
  unfold Oper.wp execOp
  simp only [ho, resolve, invoke, builtin, Sem.run_bind, Sem.run_pure, Result.andThen_ok, List.map_toArray, List.map_cons, List.map_nil, hs, hx, hr]
  exact hK2 _ _ hK
end
def zl (l : List UInt8) (k : Nat) : List UInt8 := l ++ List.replicate k 0
theorem zl_len (l : List UInt8) (k : Nat) : (zl l k).length = l.length + k := by simp [zl]
theorem zl_snoc (l : List UInt8) (k : Nat) : zl l k ++ [0] = zl l (k + 1) := by simp [zl, List.replicate_succ']
theorem zl_pad (l : List UInt8) (n k : Nat) (h : l.length + k = max l.length n) : zl l k = pad l n := by
  unfold zl pad; rw [show n - l.length = k by omega]
set_option maxHeartbeats 1000000 in
set_option maxRecDepth 100000 in
theorem longer_call (s : ByteArray) (n : Nat) (w : World) (hs : s.size ≤ 140737488351232) (hn : n ≤ 1048576) :
    Calls Tryd.prog 30 #[.string s, .int .i64 (n : Int)] w fun e w' => ∃ g cap, e = .returned (.slice (some ⟨g, 0, none⟩) (max s.size n) cap) ∧ BRow w' g (pad (txt s) n) ∧ w.heap.size ≤ g ∧ g < w'.heap.size ∧ Below w.heap.size w w' := by
  obtain ⟨N, HN⟩ : ∃ N, Hid (N = max s.size n) := ⟨_, hid_of rfl⟩
  rw [← HN.out]
  have HS := hid_of (show (txt s).length = s.size by simp [txt])
  obtain ⟨cap0, w0, hcv, G0, B0⟩ := bytes_of w s
  have HG0 := hid_of G0
  have HB0 := hid_of B0
  clear G0 B0
  go_enter Tryd.func30, Tryd.ntmps30
  go_wp2
  go_loopg [5] N (fun gh v wr => ∃ k m g cap : Nat, N ≤ gh + m ∧ m = s.size + k ∧ m ≤ N ∧ v = .slice (some ⟨g, 0, none⟩) m cap ∧ Hid (GR wr g cap (zl (txt s) k)) ∧ w.heap.size ≤ g ∧ Hid (Below w.heap.size w wr))
  case atStart => exact ⟨0, s.size, w.heap.size, cap0, by omega, rfl, by rw [HN.out]; omega, rfl, by rw [show zl (txt s) 0 = txt s by simp [zl]]; exact HG0, Nat.le_refl _, HB0⟩
  case round =>
    obtain ⟨k, m, g, cap, hgh, hm, hmN, rfl, HG, hg, HB⟩ := hrel
    have hm1 : m ≤ 140737488351232 + 1048576 := by have := HN.out; omega
    have HM := hid_of hm
    clear hm
    by_cases hlt : m < n
    · obtain ⟨gO, rfl⟩ : ∃ gO, gk = gO + 1 := ⟨gk - 1, by have := HN.out; omega⟩
      have hsz := HB.out.size
      have HL := hid_of (show (zl (txt s) k).length = m by rw [zl_len, HS.out, HM.out])
      have hb1 := (Below.refl w.heap.size wr).alloc hsz (.cells #[.int .u8 0] 5)
      have hb2 := (Below.refl wr.heap.size wr).alloc (Nat.le_refl _) (.cells #[.int .u8 0] 5)
      obtain ⟨g', cap', w', hr, G', hg', B'⟩ := app_zero (b := wr.heap.size) (B := w.heap.size) (HG.out.keep hb2 HG.out.lt) (Lib.cell_of_heap (heap_alloc_new wr (.cells #[.int .u8 0] 5)) 0) 54 (by rw [HL.out]; omega) hg (Nat.le_trans hsz hb1.size)
      rw [HL.out] at hr
      rw [zl_snoc] at G'
      have HG' := hid_of G'
      have HB' := hid_of ((HB.out.trans hb1).trans B')
      clear G' B' hb1 hb2 hsz
      have HMN := hid_of (show m + 1 ≤ N by have := HN.out; omega)
      go_wp2_with (at_builtin; refine wpl_eq rfl _ _ 54 54 rfl (.slice (some ⟨g, 0, none⟩) m cap) (.slice (some ⟨wr.heap.size, 0, none⟩) 1 1) (.slice (some ⟨g', 0, none⟩) (m + 1) cap') _ w' rfl rfl hr ?_)
      go_roundg gO
      case measure => omega
      case rel => exact ⟨k + 1, m + 1, g', cap', by omega, by have := HM.out; omega, HMN.out, rfl, HG', hg', HB'⟩
    · have HE := hid_of (show m = N by have := HM.out; have := HN.out; omega)
      have HP := hid_of (show zl (txt s) k = pad (txt s) n from zl_pad _ _ _ (by rw [HS.out, ← HM.out, HE.out, HN.out]))
      go_wp2
      go_ret
      refine ⟨g, cap, by rw [HE.out]; rfl, ?_, hg, HG.out.lt, HB.out⟩
      rw [← HP.out]; exact HG.out.row
end Go.Proofs.YtdkdjgpeeglbhaaDoor.Longer
