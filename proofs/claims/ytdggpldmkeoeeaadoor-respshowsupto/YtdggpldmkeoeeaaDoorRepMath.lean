/- Replies as trees; which may be; what is shown of them. Pure. -/
import Derived.Test.YtdggpldmkeoeeaaDoorTextMath
import Derived.RowKit
namespace Go.Proofs.YtdggpldmkeoeeaaDoor.RepMath
set_option linter.unusedVariables false

inductive Rp where
  | mk (kind : Int) (text : ByteArray) (n : Int) (list : List Rp)

def bs (s : ByteArray) : List UInt8 := s.data.toList
theorem len_bs (s : ByteArray) : (bs s).length = s.size := Array.length_toList

theorem Rp.rec1 {P : Rp → Prop} (h : ∀ k t n l, (∀ x, x ∈ l → P x) → P (.mk k t n l)) : ∀ r, P r
  | .mk k t n l => h k t n l (fun x _ => Rp.rec1 h x)

def noEnd (l : List UInt8) : Bool := l.all (fun c => !(c.toNat == 13) && !(c.toNat == 10))

/- may d r: with at most d arrays within one another. -/
def may : Nat → Rp → Bool
  | 0, .mk k t n l => ((k == 1 || k == 2) && (n == 0) && l.isEmpty && noEnd (bs t)) || ((k == 3) && (t.size == 0) && l.isEmpty) || ((k == 4) && (n == 0) && l.isEmpty) || ((k == 5) && (t.size == 0) && (n == 0) && l.isEmpty)
  | d + 1, .mk k t n l => ((k == 1 || k == 2) && (n == 0) && l.isEmpty && noEnd (bs t)) || ((k == 3) && (t.size == 0) && l.isEmpty) || ((k == 4) && (n == 0) && l.isEmpty) || ((k == 5) && (t.size == 0) && (n == 0) && l.isEmpty)
      || ((k == 6) && (t.size == 0) && (n == 0) && l.all (may d)) || ((k == 7) && (t.size == 0) && (n == 0) && l.isEmpty)

def hexd (n : Nat) : UInt8 := if n < 10 then UInt8.ofNat (48 + n) else UInt8.ofNat (87 + n)
/- one byte of a quoted text -/
def q1 (c : UInt8) : List UInt8 :=
  if c.toNat = 34 ∨ c.toNat = 92 then [92, c] else if c.toNat = 10 then [92, 110] else if c.toNat = 13 then [92, 114] else if c.toNat = 9 then [92, 116]
  else if c.toNat < 32 ∨ 126 < c.toNat then [92, 120, hexd (c.toNat / 16), hexd (c.toNat % 16)] else [c]
def quoted (l : List UInt8) : List UInt8 := l.flatMap q1

def tNil : List UInt8 := [40, 110, 105, 108, 41]
def tNone : List UInt8 := [40, 110, 111, 110, 101, 41]
def tErr : List UInt8 := [40, 101, 114, 114, 111, 114, 41, 32]
def tInt : List UInt8 := [40, 105, 110, 116, 101, 103, 101, 114, 41, 32]
def joined : List (List UInt8) → List UInt8
  | [] => []
  | [x] => x
  | x :: y :: r => x ++ [44, 32] ++ joined (y :: r)
/- what is shown of a reply that may be, with at most d arrays within one another -/
def shown : Nat → Rp → List UInt8
  | d, .mk k t n l =>
    if k = 1 then bs t else if k = 2 then tErr ++ bs t else if k = 3 then tInt ++ Go.Lib.itoa n else if k = 4 then [34] ++ quoted (bs t) ++ [34]
    else if k = 5 then tNil else if k = 7 then tNone else match d with
      | 0 => []
      | d + 1 => [91] ++ joined (l.map (shown d)) ++ [93]

/- the bytes of a reply that may be -/
def le : List UInt8 := [13, 10]
def enc : Nat → Rp → List UInt8
  | d, .mk k t n l =>
    if k = 1 then [43] ++ bs t ++ le else if k = 2 then [45] ++ bs t ++ le else if k = 3 then [58] ++ Go.Lib.itoa n ++ le
    else if k = 4 then [36] ++ Go.Lib.itoa t.size ++ le ++ bs t ++ le else if k = 5 then [36, 45, 49] ++ le else if k = 7 then [42, 45, 49] ++ le
    else match d with
      | 0 => []
      | d + 1 => [42] ++ Go.Lib.itoa l.length ++ le ++ l.flatMap (enc d)
end Go.Proofs.YtdggpldmkeoeeaaDoor.RepMath
