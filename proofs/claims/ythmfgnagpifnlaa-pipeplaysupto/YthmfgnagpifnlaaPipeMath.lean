/- The network as plain mathematics: connections with what was sent and read, written and taken. -/
namespace Go.Proofs.Ythmfgnagpifnlaa.PipeMath
set_option linter.unusedVariables false
abbrev Bs := List UInt8
structure Cn where
  sent : Bs
  rd : Nat
  ended : Bool
  wrote : Bs
  tk : Nat
  closed : Bool
  cut : Bool
def cn0 : Cn := ⟨[], 0, false, [], 0, false, false⟩
structure Nt where
  win : Nat
  cs : List Cn
  acc : Nat
def Cn.shut (k : Cn) : Bool := k.closed || k.cut
def Cn.left (k : Cn) : Nat := k.wrote.length - k.tk
def Cn.unread (k : Cn) : Nat := k.sent.length - k.rd
def cl (m : Int) (a : Nat) : Nat := min m.toNat a
theorem cl_le (m : Int) (a : Nat) : cl m a ≤ a := Nat.min_le_right _ _
theorem cl_eq (m : Int) (a : Nat) : (cl m a : Int) = min (max m 0) a := by unfold cl; omega
theorem cl_eq2 (m : Int) (a : Nat) : (cl m a : Int) = max 0 (min m a) := by unfold cl; omega
def Nt.at (n : Nt) (c : Int) : Option Cn := if c < 0 then none else n.cs[c.toNat]?
theorem at_cases (n : Nt) (c : Int) : (n.at c = none ∧ (c < 0 ∨ (n.cs.length : Int) ≤ c)) ∨ ∃ (i : Nat) (k : Cn), c = (i : Int) ∧ i < n.cs.length ∧ n.cs[i]? = some k ∧ n.at c = some k := by
  unfold Nt.at
  by_cases h : c < 0
  · rw [if_pos h]; exact Or.inl ⟨rfl, Or.inl h⟩
  · rw [if_neg h]
    by_cases h2 : c.toNat < n.cs.length
    · exact Or.inr ⟨c.toNat, n.cs[c.toNat], by omega, h2, List.getElem?_eq_getElem h2, List.getElem?_eq_getElem h2⟩
    · exact Or.inl ⟨List.getElem?_eq_none (by omega), Or.inr (by omega)⟩
theorem at_nat (n : Nt) (i : Nat) : n.at (i : Int) = n.cs[i]? := by
  unfold Nt.at
  rw [if_neg (by omega)]
  rfl
def Nt.mod (n : Nt) (c : Int) (f : Cn → Cn) : Nt := match n.at c with
  | some k => { n with cs := n.cs.set c.toNat (f k) }
  | none => n
def Nt.sendE (n : Nt) (c : Int) : Int := match n.at c with
  | none => 60
  | some k => if k.ended || k.shut then 61 else 0
def Nt.wholeE (n : Nt) (c : Int) : Int := match n.at c with
  | none => 60
  | some k => if k.cut then 61 else 0
def Nt.serveE (n : Nt) (c : Int) : Int := match n.at c with
  | none => 60
  | some k => if n.acc ≤ c.toNat then 60 else if k.shut then 61 else 0
def Nt.connect (n : Nt) : Nt × Int × Int := if 1024 ≤ n.cs.length then (n, 0, 60) else ({ n with cs := n.cs ++ [cn0] }, (n.cs.length : Int), 0)
def Nt.accept (n : Nt) : Nt × Int × Bool := if n.acc = n.cs.length then (n, 0, false) else ({ n with acc := n.acc + 1 }, (n.acc : Int), true)
def Nt.send (n : Nt) (c : Int) (s : Bs) : Nt × Int := if n.sendE c = 0 then (n.mod c fun k => { k with sent := k.sent ++ s }, 0) else (n, n.sendE c)
def Nt.endC (n : Nt) (c : Int) : Nt × Int := if n.sendE c = 0 then (n.mod c fun k => { k with ended := true }, 0) else (n, n.sendE c)
def Cn.took (k : Cn) (m : Int) : Cn := { k with tk := k.tk + cl m k.left }
def Cn.readOn (k : Cn) (m : Int) : Cn := { k with rd := k.rd + cl m k.unread }
def Cn.takes (k : Cn) (m : Int) : Bs := (k.wrote.drop k.tk).take (cl m k.left)
def Cn.reads (k : Cn) (m : Int) : Bs := (k.sent.drop k.rd).take (cl m k.unread)
def Nt.take (n : Nt) (c : Int) (m : Int) : Nt × Bs × Int := if n.wholeE c = 0 then (n.mod c fun k => k.took m, ((n.at c).map fun k => k.takes m).getD [], 0) else (n, [], n.wholeE c)
def Cn.off (k : Cn) : Cn := { k with cut := true, wrote := k.wrote.take k.tk }
def Nt.cutC (n : Nt) (c : Int) : Nt × Int := if n.wholeE c = 0 then (n.mod c Cn.off, 0) else (n, n.wholeE c)
def Nt.read (n : Nt) (c : Int) (m : Int) : Nt × Bs × Bool × Int := if n.serveE c = 0 then (n.mod c fun k => k.readOn m, ((n.at c).map fun k => k.reads m).getD [], ((n.at c).map fun k => k.ended && decide ((k.readOn m).unread = 0)).getD false, 0) else (n, [], false, n.serveE c)
def Nt.fit (n : Nt) (k : Cn) (s : Bs) : Nat := min s.length (n.win - k.left)
def Nt.write (n : Nt) (c : Int) (s : Bs) : Nt × Int × Int := if n.serveE c = 0 then (n.mod c fun k => { k with wrote := k.wrote ++ s.take (n.fit k s) }, ((n.at c).map fun k => (n.fit k s : Int)).getD 0, 0) else (n, 0, n.serveE c)
def Nt.room (n : Nt) (c : Int) : Int := if n.serveE c = 0 then ((n.at c).map fun k => (n.win : Int) - (k.left : Int)).getD 0 else 0
def Nt.close (n : Nt) (c : Int) : Nt × Int := if n.serveE c = 0 then (n.mod c fun k => { k with closed := true }, 0) else (n, n.serveE c)
def Nt.sentA (n : Nt) (c : Int) : Bs := ((n.at c).map fun k => k.sent).getD []
def Nt.taken (n : Nt) (c : Int) : Bs := ((n.at c).map fun k => k.wrote.take k.tk).getD []

/- what is kept -/
structure CnOk (win : Nat) (k : Cn) : Prop where
  rd : k.rd ≤ k.sent.length
  tk : k.tk ≤ k.wrote.length
  win : k.left ≤ win
  cut : k.cut = true → k.wrote.length = k.tk
structure Ok (n : Nt) : Prop where
  acc : n.acc ≤ n.cs.length
  len : n.cs.length ≤ 1024
  lo : 1 ≤ n.win
  hi : n.win ≤ 1048576
  all : ∀ k ∈ n.cs, CnOk n.win k
theorem cn0_ok (w : Nat) : CnOk w cn0 := ⟨Nat.le_refl _, Nat.le_refl _, Nat.zero_le _, fun h => by cases h⟩
theorem Ok.at {n : Nt} (h : Ok n) {c : Int} {k : Cn} (hc : n.at c = some k) : CnOk n.win k := by
  unfold Nt.at at hc
  split at hc
  · cases hc
  · exact h.all k (List.mem_of_getElem? hc)
theorem Ok.mod {n : Nt} (h : Ok n) (c : Int) (f : Cn → Cn) (hf : ∀ k, n.at c = some k → CnOk n.win k → CnOk n.win (f k)) : Ok (n.mod c f) := by
  unfold Nt.mod
  cases hk : n.at c with
  | none => exact h
  | some k =>
    refine ⟨by simpa using h.acc, by simpa using h.len, h.lo, h.hi, fun x hx => ?_⟩
    rcases List.mem_or_eq_of_mem_set hx with h1 | rfl
    · exact h.all x h1
    · exact hf k hk (h.at hk)
theorem Cn.took_ok {w : Nat} {k : Cn} (m : Int) (h : CnOk w k) (hc : k.cut = false) : CnOk w (k.took m) := by
  have h1 := cl_le m k.left
  have h2 := h.tk
  have h3 := h.win
  refine ⟨h.rd, ?_, ?_, fun e => ?_⟩
  · show k.tk + cl m k.left ≤ k.wrote.length
    unfold Cn.left at *; omega
  · show k.wrote.length - (k.tk + cl m k.left) ≤ w
    unfold Cn.left at *; omega
  · have : k.cut = true := e
    rw [hc] at this; cases this
theorem Cn.readOn_ok {w : Nat} {k : Cn} (m : Int) (h : CnOk w k) : CnOk w (k.readOn m) := by
  have h1 := cl_le m k.unread
  have h2 := h.rd
  refine ⟨?_, h.tk, h.win, h.cut⟩
  show k.rd + cl m k.unread ≤ k.sent.length
  unfold Cn.unread at *; omega
theorem Cn.off_ok {w : Nat} {k : Cn} (h : CnOk w k) : CnOk w k.off := by
  have h2 := h.tk
  have e : (k.wrote.take k.tk).length = k.tk := by rw [List.length_take]; omega
  refine ⟨h.rd, ?_, ?_, fun _ => e⟩
  · show k.tk ≤ (k.wrote.take k.tk).length
    omega
  · show (k.wrote.take k.tk).length - k.tk ≤ w
    omega
theorem fit_le (n : Nt) (k : Cn) (s : Bs) : n.fit k s ≤ s.length := Nat.min_le_left _ _
theorem Cn.wrote_ok {n : Nt} {k : Cn} (s : Bs) (h : CnOk n.win k) (hc : k.cut = false) : CnOk n.win { k with wrote := k.wrote ++ s.take (n.fit k s) } := by
  have h1 := fit_le n k s
  have h2 := h.tk
  have h3 := h.win
  have e : (k.wrote ++ s.take (n.fit k s)).length = k.wrote.length + n.fit k s := by rw [List.length_append, List.length_take]; omega
  have h4 : n.fit k s ≤ n.win - k.left := Nat.min_le_right _ _
  refine ⟨h.rd, ?_, ?_, fun e => ?_⟩
  · show k.tk ≤ (k.wrote ++ s.take (n.fit k s)).length
    omega
  · show (k.wrote ++ s.take (n.fit k s)).length - k.tk ≤ n.win
    unfold Cn.left at *; omega
  · have : k.cut = true := e
    rw [hc] at this; cases this
theorem serve_cut {n : Nt} {c : Int} {k : Cn} (hk : n.at c = some k) (h : n.serveE c = 0) : k.cut = false ∧ k.closed = false ∧ c.toNat < n.acc := by
  unfold Nt.serveE at h
  rw [hk] at h
  dsimp only at h
  split at h
  · cases h
  · split at h
    · cases h
    · rename_i h1 h2
      unfold Cn.shut at h2
      cases h3 : k.closed <;> cases h4 : k.cut <;> simp_all
theorem whole_cut {n : Nt} {c : Int} {k : Cn} (hk : n.at c = some k) (h : n.wholeE c = 0) : k.cut = false := by
  unfold Nt.wholeE at h
  rw [hk] at h
  dsimp only at h
  cases h4 : k.cut
  · rfl
  · rw [h4] at h; cases h
theorem send_cut {n : Nt} {c : Int} {k : Cn} (hk : n.at c = some k) (h : n.sendE c = 0) : k.ended = false ∧ k.closed = false ∧ k.cut = false := by
  unfold Nt.sendE at h
  rw [hk] at h
  dsimp only at h
  unfold Cn.shut at h
  cases h3 : k.closed <;> cases h4 : k.cut <;> cases h5 : k.ended <;> simp_all
theorem mod_win (n : Nt) (c : Int) (f : Cn → Cn) : (n.mod c f).win = n.win ∧ (n.mod c f).acc = n.acc ∧ (n.mod c f).cs.length = n.cs.length := by
  unfold Nt.mod
  cases n.at c <;> simp
theorem mod_at (n : Nt) (c : Int) (f : Cn → Cn) (c2 : Int) : (n.mod c f).at c2 = if c2 = c then (n.at c).map f else n.at c2 := by
  rcases at_cases n c with ⟨h, hc⟩ | ⟨i, k, rfl, hi, hk, h⟩
  · unfold Nt.mod
    rw [h]
    by_cases e : c2 = c
    · rw [if_pos e, e]; exact h
    · rw [if_neg e]
  · have e0 : n.mod (i : Int) f = { n with cs := n.cs.set i (f k) } := by unfold Nt.mod; rw [h]; rfl
    rw [e0, h]
    by_cases e : c2 = (i : Int)
    · rw [if_pos e, e, at_nat]
      simp [hi]
    · rw [if_neg e]
      unfold Nt.at
      by_cases h2 : c2 < 0
      · rw [if_pos h2, if_pos h2]
      · rw [if_neg h2, if_neg h2, List.getElem?_set_ne (by omega)]
/- sizes -/
structure Big (n : Nt) (M : Nat) : Prop where
  all : ∀ k ∈ n.cs, k.sent.length ≤ M ∧ k.wrote.length ≤ M
theorem Big.at {n : Nt} {M : Nat} (h : Big n M) {c : Int} {k : Cn} (hc : n.at c = some k) : k.sent.length ≤ M ∧ k.wrote.length ≤ M := by
  unfold Nt.at at hc
  split at hc
  · cases hc
  · exact h.all k (List.mem_of_getElem? hc)
theorem Big.mono {n : Nt} {M N : Nat} (h : Big n M) (hl : M ≤ N) : Big n N := ⟨fun k hk => ⟨Nat.le_trans (h.all k hk).1 hl, Nat.le_trans (h.all k hk).2 hl⟩⟩
theorem Big.mod {n : Nt} {M N : Nat} (h : Big n M) (hl : M ≤ N) (c : Int) (f : Cn → Cn) (hf : ∀ k, n.at c = some k → (f k).sent.length ≤ N ∧ (f k).wrote.length ≤ N) : Big (n.mod c f) N := by
  unfold Nt.mod
  cases hk : n.at c with
  | none => exact h.mono hl
  | some k =>
    refine ⟨fun x hx => ?_⟩
    rcases List.mem_or_eq_of_mem_set hx with h1 | rfl
    · exact (h.mono hl).all x h1
    · exact hf k hk

/- a call, as a step -/
structure Op where
  kind : Int
  conn : Int
  num : Int
  data : Bs
def Nt.did (n : Nt) (o : Op) : Nt :=
  if o.kind = 0 then n.connect.1 else if o.kind = 1 then (n.send o.conn o.data).1 else if o.kind = 2 then (n.endC o.conn).1 else if o.kind = 3 then (n.take o.conn o.num).1 else if o.kind = 4 then (n.cutC o.conn).1
  else if o.kind = 5 then n.accept.1 else if o.kind = 6 then (n.read o.conn o.num).1 else if o.kind = 7 then (n.write o.conn o.data).1 else if o.kind = 8 then (n.close o.conn).1 else n
def Nt.gotR (n : Nt) (o : Op) : Bs := if o.kind = 6 then (n.read o.conn o.num).2.1 else []
def Nt.gotW (n : Nt) (o : Op) : Bs := if o.kind = 7 then o.data.take (n.write o.conn o.data).2.1.toNat else []
theorem connect_ok {n : Nt} (h : Ok n) : Ok n.connect.1 := by
  unfold Nt.connect
  split
  · exact h
  · refine ⟨?_, ?_, h.lo, h.hi, fun k hk => ?_⟩
    · have := h.acc; simp; omega
    · simp; omega
    · rcases List.mem_append.1 hk with h1 | h1
      · exact h.all k h1
      · rw [List.mem_singleton.1 h1]; exact cn0_ok _
theorem accept_ok {n : Nt} (h : Ok n) : Ok n.accept.1 := by
  have := h.acc
  unfold Nt.accept
  split
  · exact h
  · exact ⟨by show n.acc + 1 ≤ n.cs.length; omega, h.len, h.lo, h.hi, h.all⟩
theorem send_ok {n : Nt} (h : Ok n) (c : Int) (s : Bs) : Ok (n.send c s).1 := by
  unfold Nt.send
  split
  · exact h.mod c _ fun k hk q => ⟨by have := q.rd; show k.rd ≤ (k.sent ++ s).length; rw [List.length_append]; omega, q.tk, q.win, q.cut⟩
  · exact h
theorem endC_ok {n : Nt} (h : Ok n) (c : Int) : Ok (n.endC c).1 := by
  unfold Nt.endC
  split
  · exact h.mod c _ fun k hk q => ⟨q.rd, q.tk, q.win, q.cut⟩
  · exact h
theorem take_ok {n : Nt} (h : Ok n) (c m : Int) : Ok (n.take c m).1 := by
  unfold Nt.take
  split
  · rename_i he
    exact h.mod c _ fun k hk q => Cn.took_ok m q (whole_cut hk he)
  · exact h
theorem cutC_ok {n : Nt} (h : Ok n) (c : Int) : Ok (n.cutC c).1 := by
  unfold Nt.cutC
  split
  · exact h.mod c _ fun k hk q => Cn.off_ok q
  · exact h
theorem read_ok {n : Nt} (h : Ok n) (c m : Int) : Ok (n.read c m).1 := by
  unfold Nt.read
  split
  · exact h.mod c _ fun k hk q => Cn.readOn_ok m q
  · exact h
theorem write_ok {n : Nt} (h : Ok n) (c : Int) (s : Bs) : Ok (n.write c s).1 := by
  unfold Nt.write
  split
  · rename_i he
    exact h.mod c _ fun k hk q => Cn.wrote_ok s q (serve_cut hk he).1
  · exact h
theorem close_ok {n : Nt} (h : Ok n) (c : Int) : Ok (n.close c).1 := by
  unfold Nt.close
  split
  · exact h.mod c _ fun k hk q => ⟨q.rd, q.tk, q.win, q.cut⟩
  · exact h
theorem did_ok {n : Nt} (h : Ok n) (o : Op) : Ok (n.did o) := by
  unfold Nt.did
  split; · exact connect_ok h
  split; · exact send_ok h _ _
  split; · exact endC_ok h _
  split; · exact take_ok h _ _
  split; · exact cutC_ok h _
  split; · exact accept_ok h
  split; · exact read_ok h _ _
  split; · exact write_ok h _ _
  split; · exact close_ok h _
  exact h
theorem did_big {n : Nt} {M : Nat} (h : Big n M) (o : Op) : Big (n.did o) (M + o.data.length) := by
  have hm : M ≤ M + o.data.length := Nat.le_add_right _ _
  have same : ∀ (c : Int) (f : Cn → Cn), (∀ k, (f k).sent.length ≤ k.sent.length ∧ (f k).wrote.length ≤ k.wrote.length) → Big (n.mod c f) (M + o.data.length) := fun c f hf => h.mod hm c f fun k hk => by
    have := h.at hk
    have := hf k
    omega
  unfold Nt.did
  split
  · unfold Nt.connect
    split
    · exact h.mono hm
    · refine ⟨fun k hk => ?_⟩
      rcases List.mem_append.1 hk with h1 | h1
      · exact (h.mono hm).all k h1
      · rw [List.mem_singleton.1 h1]; exact ⟨Nat.zero_le _, Nat.zero_le _⟩
  split
  · unfold Nt.send
    split
    · refine h.mod hm _ _ fun k hk => ?_
      have := h.at hk
      refine ⟨?_, by show k.wrote.length ≤ _; omega⟩
      show (k.sent ++ o.data).length ≤ _
      rw [List.length_append]; omega
    · exact h.mono hm
  split
  · unfold Nt.endC
    split
    · exact same _ _ fun k => ⟨Nat.le_refl _, Nat.le_refl _⟩
    · exact h.mono hm
  split
  · unfold Nt.take
    split
    · exact same _ _ fun k => ⟨Nat.le_refl _, Nat.le_refl _⟩
    · exact h.mono hm
  split
  · unfold Nt.cutC
    split
    · exact same _ _ fun k => ⟨Nat.le_refl _, by show (k.wrote.take k.tk).length ≤ _; rw [List.length_take]; exact Nat.min_le_right _ _⟩
    · exact h.mono hm
  split
  · unfold Nt.accept
    split
    · exact h.mono hm
    · exact ⟨(h.mono hm).all⟩
  split
  · unfold Nt.read
    split
    · exact same _ _ fun k => ⟨Nat.le_refl _, Nat.le_refl _⟩
    · exact h.mono hm
  split
  · unfold Nt.write
    split
    · refine h.mod hm _ _ fun k hk => ?_
      have := h.at hk
      have h2 := fit_le n k o.data
      refine ⟨by show k.sent.length ≤ _; omega, ?_⟩
      show (k.wrote ++ o.data.take (n.fit k o.data)).length ≤ _
      rw [List.length_append, List.length_take]; omega
    · exact h.mono hm
  split
  · unfold Nt.close
    split
    · exact same _ _ fun k => ⟨Nat.le_refl _, Nat.le_refl _⟩
    · exact h.mono hm
  exact h.mono hm
end Go.Proofs.Ythmfgnagpifnlaa.PipeMath
