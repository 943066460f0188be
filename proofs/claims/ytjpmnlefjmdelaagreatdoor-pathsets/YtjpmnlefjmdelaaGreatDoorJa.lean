/- JSON texts: what is read, as functions on what is left of the text: plain mathematics. -/
import Derived.Test.YtjpmnlefjmdelaaGreatDoorMu
import Derived.Test.YtjpmnlefjmdelaaGreatDoorKaJ
set_option linter.unusedSimpArgs false
set_option linter.unusedVariables false
namespace Go.Proofs.YtjpmnlefjmdelaaGreatDoor

/-- what is read, or an error at a place (so many bytes are left there) -/
inductive R (α : Type) where
  | ok (a : α)
  | er (rem : Nat) (code : Int)

/-- a byte behind a backslash -/
def escR : Str → R (UInt8 × Str)
  | [] => .er 0 3
  | e :: r => if e.toNat = 34 ∨ e.toNat = 92 then .ok (e, r) else if e.toNat = 110 then .ok (10, r) else .er (r.length + 1) 2
def charR : Str → R (UInt8 × Str)
  | [] => .er 0 3
  | c :: r => if c.toNat = 92 then escR r else .ok (c, r)
/-- a string behind its opening quote, of which k bytes are read; fuel: the bytes that are left -/
def strR : Nat → Nat → Str → R (Str × Str)
  | 0, _, _ => .er 0 3
  | f + 1, k, r => match r with
    | [] => .er 0 3
    | c :: r' => if c.toNat = 34 then .ok ([], r') else if prt c = false then .er (r'.length + 1) 2 else if k = 200 then .er (r'.length + 1) 4
      else match charR (c :: r') with
        | .er a b => .er a b
        | .ok (x, r2) => match strR f (k + 1) r2 with
          | .er a b => .er a b
          | .ok (l, r3) => .ok (x :: l, r3)
/-- the map of a list of fields -/
def mapL (l : List (Str × T)) : List (Str × T) := l.foldl (fun M p => pf p.1 p.2 false M) []
end Go.Proofs.YtjpmnlefjmdelaaGreatDoor
