/- The disk, as mathematics: names in their order, files by number, open changes, the plan. -/
import Derived.Maps.OwnSet
import Derived.Sort.KeysCollected
namespace Go.Proofs.Ytilbffbmpgebmaa.DiskMath
open Go.Maps
set_option linter.unusedVariables false

abbrev Bs := List UInt8
abbrev NL := List (Bs × Nat)
def wout (l : NL) (k : Bs) : NL := l.filter fun p => !(p.1 == k)
def insL (x : Bs × Nat) : NL → NL
  | [] => [x]
  | y :: r => if bytesBefore x.1 y.1 then x :: y :: r else y :: insL x r
def withL (l : NL) (k : Bs) (f : Nat) : NL := insL (k, f) (wout l k)
def lkp (l : NL) (k : Bs) : Option Nat := (l.find? fun p => p.1 == k).map (·.2)
inductive Ch where
  | make (k : Bs) (f : Nat)
  | move (a b : Bs) (f : Nat)
  | drop (k : Bs)
def Ch.on : Ch → NL → NL
  | .make k f, l => withL l k f
  | .move a b f, l => withL (wout l a) b f
  | .drop k, l => wout l k
def Ch.gone : Ch → Bs
  | .make _ _ => []
  | .move a _ _ => a
  | .drop k => k
def Ch.name : Ch → Bs
  | .make k _ => k
  | .move _ b _ => b
  | .drop _ => []
def Ch.file : Ch → Option Nat
  | .make _ f => some f
  | .move _ _ f => some f
  | .drop _ => none
structure Ft where
  step : Int
  kind : Int
  n : Int
structure Dk where
  files : List (Bs × Nat)
  names : NL
  last : NL
  opens : List Ch
  plan : List Ft
  steps : Nat
  down : Bool
def new : Dk := ⟨[], [], [], [], [], 0, false⟩
def within (n : Int) (all : Nat) : Nat := (min (max n 0) (all : Int)).toNat
/- a step: how many bytes a short one lays, and the error -/
def Dk.fault (d : Dk) : Dk × Int × Int :=
  match d.plan with
  | [] => ({ d with steps := d.steps + 1 }, 0, 0)
  | f :: r => if f.step = (d.steps : Int) + 1 then (if f.kind = 3 then ({ d with steps := d.steps + 1, plan := r, down := true }, 0, 53) else ({ d with steps := d.steps + 1, plan := r }, f.n, 52)) else ({ d with steps := d.steps + 1 }, 0, 0)
def Dk.asked (d : Dk) (name : Bs) : Int := if d.down then 53 else if name = [] then 1 else match lkp d.names name with | none => 50 | some _ => 0
def Dk.turn (d : Dk) (c : Ch) : Dk := { d with names := c.on d.names, opens := d.opens ++ [c] }
def Dk.create (d : Dk) (name : Bs) : Dk × Int :=
  if d.asked name = 0 then (d, 51) else if d.asked name ≠ 50 then (d, d.asked name) else
  let r := d.fault
  if r.2.2 = 0 then (({ r.1 with files := r.1.files ++ [([], 0)] } : Dk).turn (.make name r.1.files.length), 0) else (r.1, r.2.2)
def Dk.file (d : Dk) (name : Bs) : Nat := (lkp d.names name).getD 0
def Dk.upd (d : Dk) (f : Nat) (g : Bs × Nat → Bs × Nat) : Dk := { d with files := d.files.modify f g }
def Dk.append (d : Dk) (name s : Bs) : Dk × Int × Int :=
  if d.asked name ≠ 0 then (d, 0, d.asked name) else
  let r := d.fault
  let u := if r.2.2 = 0 then s else s.take (within r.2.1 s.length)
  (r.1.upd (d.file name) (fun x => (x.1 ++ u, x.2)), u.length, r.2.2)
def cutF (n : Nat) (x : Bs × Nat) : Bs × Nat := (x.1.take n, min x.2 n)
def syncF (x : Bs × Nat) : Bs × Nat := (x.1, x.1.length)
def Dk.trunc (d : Dk) (name : Bs) (n : Int) : Dk × Int :=
  if d.asked name ≠ 0 then (d, d.asked name) else
  let r := d.fault
  if r.2.2 = 0 then (r.1.upd (d.file name) (fun x => cutF (within n x.1.length) x), 0) else (r.1, r.2.2)
def Dk.sync (d : Dk) (name : Bs) : Dk × Int :=
  if d.asked name ≠ 0 then (d, d.asked name) else
  let r := d.fault
  if r.2.2 = 0 then (r.1.upd (d.file name) syncF, 0) else (r.1, r.2.2)
def Dk.refuse (d : Dk) (l : List Bs) : Int := if d.down then 53 else if [] ∈ l then 1 else 0
def Dk.rename (d : Dk) (a b : Bs) : Dk × Int :=
  if d.refuse [a, b] ≠ 0 then (d, d.refuse [a, b]) else
  if d.asked a ≠ 0 then (d, d.asked a) else
  let r := d.fault
  if r.2.2 = 0 then (if a = b then (r.1, 0) else (r.1.turn (.move a b (d.file a)), 0)) else (r.1, r.2.2)
def Dk.remove (d : Dk) (name : Bs) : Dk × Int :=
  if d.asked name ≠ 0 then (d, d.asked name) else
  let r := d.fault
  if r.2.2 = 0 then (r.1.turn (.drop name), 0) else (r.1, r.2.2)
def applyAll (l : List Ch) (n : NL) : NL := l.foldl (fun n c => c.on n) n
def Dk.settle (d : Dk) (n : Nat) : Dk := { d with last := applyAll (d.opens.take n) d.last, opens := [] }
def Dk.syncNames (d : Dk) : Dk × Int :=
  if d.refuse [] ≠ 0 then (d, d.refuse []) else
  let r := d.fault
  if r.2.2 = 0 then (r.1.settle r.1.opens.length, 0) else (r.1, r.2.2)
def Dk.read (d : Dk) (name : Bs) : Bs × Int := if d.asked name ≠ 0 then ([], d.asked name) else (((d.files[d.file name]?).getD ([], 0)).1, 0)
def Dk.synced (d : Dk) (name : Bs) : Int × Int := if d.asked name ≠ 0 then (0, d.asked name) else ((((d.files[d.file name]?).getD ([], 0)).2 : Int), 0)
def keys (l : NL) : List Bs := l.map (·.1)
def outl (bytes : List Int) (i : Nat) : Int := if bytes.length = 0 then 0 else bytes.getD (i % bytes.length) 0
def crashF (m : Int) (x : Bs × Nat) : Bs × Nat := syncF (cutF (x.2 + within m (x.1.length - x.2)) x)
def crashFiles (bytes : List Int) : Nat → NL → List (Bs × Nat) → List (Bs × Nat)
  | _, [], fs => fs
  | i, p :: r, fs => crashFiles bytes (i + 1) r (fs.modify p.2 (crashF (outl bytes i)))
def Dk.crash (d : Dk) (names : Int) (bytes : List Int) : Dk :=
  let e := d.settle (within names d.opens.length)
  { e with names := e.last, files := crashFiles bytes 0 e.last e.files, plan := [], down := false }

/- what is kept -/
structure NOk (n : Nat) (l : NL) : Prop where
  keys : ∀ p ∈ l, p.1 ≠ []
  ids : ∀ p ∈ l, p.2 < n
  len : ∀ p ∈ l, p.1.length ≤ 281474976710656
def COk (n : Nat) : Ch → Prop
  | .make k f => k ≠ [] ∧ f < n ∧ k.length ≤ 281474976710656
  | .move a b f => a ≠ [] ∧ b ≠ [] ∧ f < n ∧ a.length ≤ 281474976710656 ∧ b.length ≤ 281474976710656
  | .drop k => k ≠ [] ∧ k.length ≤ 281474976710656
structure Ok (d : Dk) : Prop where
  names : NOk d.files.length d.names
  last : NOk d.files.length d.last
  opens : ∀ c ∈ d.opens, COk d.files.length c
  nlen : d.names.length ≤ d.steps
  llen : d.last.length + d.opens.length ≤ d.steps
  plan : ∀ f ∈ d.plan, -9223372036854775808 ≤ f.step ∧ f.step ≤ 9223372036854775807 ∧ 1 ≤ f.kind ∧ f.kind ≤ 3 ∧ 0 ≤ f.n ∧ f.n ≤ 9223372036854775807
theorem within_le (n : Int) (a : Nat) : within n a ≤ a := by unfold within; omega
theorem within_eq (n : Int) (a : Nat) : min (max n 0) (a : Int) = (within n a : Int) := by unfold within; omega
theorem wout_mem {l : NL} {k : Bs} {p : Bs × Nat} (h : p ∈ wout l k) : p ∈ l := (List.mem_filter.1 h).1
theorem ins_mem {x p : Bs × Nat} : ∀ {l : NL}, p ∈ insL x l → p = x ∨ p ∈ l
  | [], h => by simp only [insL, List.mem_singleton] at h; exact Or.inl h
  | y :: r, h => by
    unfold insL at h
    split at h
    · rcases List.mem_cons.1 h with h | h
      · exact Or.inl h
      · exact Or.inr h
    · rcases List.mem_cons.1 h with h | h
      · exact Or.inr (List.mem_cons.2 (Or.inl h))
      · rcases ins_mem h with h | h
        · exact Or.inl h
        · exact Or.inr (List.mem_cons.2 (Or.inr h))
theorem ins_len (x : Bs × Nat) : ∀ l : NL, (insL x l).length = l.length + 1
  | [] => rfl
  | y :: r => by
    unfold insL
    split
    · rfl
    · simp [ins_len x r]
theorem wout_len (l : NL) (k : Bs) : (wout l k).length ≤ l.length := List.length_filter_le _ _
theorem on_len (c : Ch) (l : NL) : (c.on l).length ≤ l.length + 1 := by
  cases c with
  | make k f => show (insL _ (wout l k)).length ≤ _; rw [ins_len]; have := wout_len l k; omega
  | move a b f => show (insL _ (wout (wout l a) b)).length ≤ _; rw [ins_len]; have := wout_len l a; have := wout_len (wout l a) b; omega
  | drop k => have := wout_len l k; show (wout l k).length ≤ _; omega
theorem NOk.wout {n : Nat} {l : NL} (h : NOk n l) (k : Bs) : NOk n (wout l k) := ⟨fun p hp => h.keys p (wout_mem hp), fun p hp => h.ids p (wout_mem hp), fun p hp => h.len p (wout_mem hp)⟩
theorem NOk.withL {n : Nat} {l : NL} (h : NOk n l) {k : Bs} {f : Nat} (hk : k ≠ []) (hf : f < n) (hl : k.length ≤ 281474976710656) : NOk n (withL l k f) := by
  refine ⟨fun p hp => ?_, fun p hp => ?_, fun p hp => ?_⟩ <;> rcases ins_mem hp with rfl | hp
  · exact hk
  · exact (h.wout k).keys p hp
  · exact hf
  · exact (h.wout k).ids p hp
  · exact hl
  · exact (h.wout k).len p hp
theorem NOk.on {n : Nat} {l : NL} (h : NOk n l) {c : Ch} (hc : COk n c) : NOk n (c.on l) := by
  cases c with
  | make k f => exact h.withL hc.1 hc.2.1 hc.2.2
  | move a b f => exact (h.wout a).withL hc.2.1 hc.2.2.1 hc.2.2.2.2
  | drop k => exact h.wout k
theorem NOk.all {n : Nat} : ∀ {cs : List Ch} {l : NL}, NOk n l → (∀ c ∈ cs, COk n c) → NOk n (applyAll cs l)
  | [], l, h, _ => h
  | c :: r, l, h, hc => NOk.all (l := c.on l) (h.on (hc c List.mem_cons_self)) (fun x hx => hc x (List.mem_cons_of_mem _ hx))
theorem all_len : ∀ (cs : List Ch) (l : NL), (applyAll cs l).length ≤ l.length + cs.length
  | [], l => by simp [applyAll]
  | c :: r, l => by
    have := all_len r (c.on l)
    have := on_len c l
    show (applyAll r (c.on l)).length ≤ _
    simp only [List.length_cons]; omega
theorem NOk.more {n m : Nat} {l : NL} (h : NOk n l) (hm : n ≤ m) : NOk m l := ⟨h.keys, fun p hp => Nat.lt_of_lt_of_le (h.ids p hp) hm, h.len⟩
theorem COk.more {n m : Nat} {c : Ch} (h : COk n c) (hm : n ≤ m) : COk m c := by
  cases c with
  | make k f => exact ⟨h.1, Nat.lt_of_lt_of_le h.2.1 hm, h.2.2⟩
  | move a b f => exact ⟨h.1, h.2.1, Nat.lt_of_lt_of_le h.2.2.1 hm, h.2.2.2⟩
  | drop k => exact h
theorem wout_nil {n : Nat} {l : NL} (h : NOk n l) : wout l [] = l := by
  unfold wout
  refine List.filter_eq_self.2 fun p hp => ?_
  have := h.keys p hp
  simp [this]
theorem lkp_mem {l : NL} {k : Bs} {f : Nat} (h : lkp l k = some f) : (k, f) ∈ l := by
  unfold lkp at h
  cases hf : l.find? (fun p => p.1 == k) with
  | none => rw [hf] at h; cases h
  | some p =>
    rw [hf] at h
    obtain rfl : p.2 = f := by simpa using h
    have h1 := List.find?_some hf
    have h2 := List.mem_of_find?_eq_some hf
    have h3 : p.1 = k := by simpa using h1
    rw [← h3]; exact h2

/- a change, as the code makes it -/
def Ch.code (c : Ch) (l : NL) : NL := match c.file with
  | some f => withL (wout l c.gone) c.name f
  | none => wout l c.gone
theorem code_on {n : Nat} {l : NL} (h : NOk n l) (c : Ch) : c.code l = c.on l := by
  cases c with
  | make k f => show withL (wout l []) k f = withL l k f; rw [wout_nil h]
  | move a b f => rfl
  | drop k => rfl

/- the map's own datum -/
def toD (pos : Nat → Nat) (l : NL) : DataW Unit := .map (l.map fun p => (.string p.1, .lit (.int .i64 (pos p.2))))
theorem filter_D (pos : Nat → Nat) (k : Bs) : ∀ l : NL, ((l.map fun p => ((.string p.1, .lit (.int .i64 (pos p.2))) : Lit × DataW Unit)).filter fun p => !p.1.sameKey (.string k)) = (wout l k).map fun p => (.string p.1, .lit (.int .i64 (pos p.2)))
  | [] => rfl
  | y :: r => by
    have e : ((Lit.string y.1).sameKey (.string k)) = (y.1 == k) := rfl
    show List.filter _ (_ :: _) = (wout (y :: r) k).map _
    unfold wout
    rw [List.filter_cons, List.filter_cons]
    show (if (!(Lit.string y.1).sameKey (.string k)) = true then _ else _) = _
    rw [e]
    by_cases h : (!(y.1 == k)) = true
    · rw [if_pos h, if_pos h, filter_D pos k r]; rfl
    · rw [if_neg h, if_neg h, filter_D pos k r]; rfl
theorem insert_D (pos : Nat → Nat) (x : Bs × Nat) : ∀ l : NL, DataW.insert ((.string x.1, .lit (.int .i64 (pos x.2))) : Lit × DataW Unit) (l.map fun p => (.string p.1, .lit (.int .i64 (pos p.2)))) = (insL x l).map fun p => (.string p.1, .lit (.int .i64 (pos p.2)))
  | [] => rfl
  | y :: r => by
    have e : ((Lit.string x.1).before (.string y.1)) = bytesBefore x.1 y.1 := rfl
    show DataW.insert _ (_ :: _) = _
    unfold DataW.insert insL
    show (if (Lit.string x.1).before (.string y.1) = true then _ else _) = _
    rw [e]
    by_cases h : bytesBefore x.1 y.1 = true
    · rw [if_pos h, if_pos h]; rfl
    · rw [if_neg h, if_neg h, insert_D pos x r]; rfl
theorem del_D (pos : Nat → Nat) (l : NL) (k : Bs) : (toD pos l).del (.string k) = toD pos (wout l k) := congrArg DataW.map (filter_D pos k l)
theorem put_D (pos : Nat → Nat) (l : NL) (k : Bs) (f : Nat) : (toD pos l).put (.string k) (.lit (.int .i64 (pos f))) = toD pos (withL l k f) := by
  show DataW.map (DataW.insert _ (List.filter _ _)) = _
  rw [filter_D pos k l]
  exact congrArg DataW.map (insert_D pos (k, f) _)
theorem has_D (pos : Nat → Nat) (l : NL) (k : Bs) : has (toD pos l) (.string k) = (lkp l k).isSome := by
  show (l.map _).any _ = _
  unfold lkp
  rw [List.any_map, Option.isSome_map, List.isSome_find?]
  rfl
theorem at_D (pos : Nat → Nat) (l : NL) (k : Bs) : (toD pos l).atKey (.string k) .nil = match lkp l k with | some f => .lit (.int .i64 (pos f)) | none => .nil := by
  unfold toD DataW.atKey
  dsimp only
  unfold lkp
  rw [List.find?_map]
  have e : ((fun p : Lit × DataW Unit => p.1.sameKey (.string k)) ∘ fun p : Bs × Nat => ((.string p.1, .lit (.int .i64 (pos p.2))) : Lit × DataW Unit)) = fun p => p.1 == k := rfl
  rw [e]
  cases l.find? (fun p => p.1 == k) <;> rfl
theorem size_D (pos : Nat → Nat) (l : NL) : Maps.size (toD pos l) = l.length := by
  show (l.map _).length = _
  simp
theorem keys_D (pos : Nat → Nat) (l : NL) : strKeys (toD pos l) = keys l := by
  show (l.map _).map _ = l.map _
  rw [List.map_map]; rfl
theorem toD_agree {pos pos' : Nat → Nat} {n : Nat} {l : NL} (h : NOk n l) (he : ∀ i, i < n → pos' i = pos i) : toD pos' l = toD pos l := by
  unfold toD
  congr 1
  refine List.map_congr_left fun p hp => ?_
  rw [he p.2 (h.ids p hp)]
end Go.Proofs.Ytilbffbmpgebmaa.DiskMath
