/- JSON texts: what is read, as functions on what is left of the text: plain mathematics. -/
import Derived.Test.YtinenbgdkchghaaMu
import Derived.Test.YtinenbgdkchghaaKaJ
set_option linter.unusedSimpArgs false
set_option linter.unusedVariables false
namespace Go.Proofs.Ytinenbgdkchghaa

/-- what is read, or an error at a place (so many bytes are left there) -/
inductive R (α : Type) where
  | ok (a : α)
  | er (rem : Nat) (code : Int)

def skp (r : Str) : Str := r.dropWhile blk
def byteR (c : UInt8) : Str → R Str
  | [] => .er 0 3
  | d :: r => if d = c then .ok r else .er (r.length + 1) 2
def wordR : Str → Str → R Str
  | [], r => .ok r
  | c :: ws, r => match byteR c r with
    | .ok r' => wordR ws r'
    | .er a b => .er a b
def digTo (n : Int) (c : UInt8) : Int := if n ≤ 1000000000000000 then 10 * n + (c.toNat - 48 : Int) else n
def digsR : Int → Str → Int × Str
  | n, [] => (n, [])
  | n, c :: r => if dig c = true then digsR (digTo n c) r else (n, c :: r)
/-- a zero and a further digit -/
def zeroD : Str → Option Nat
  | a :: b :: r => if a.toNat = 48 ∧ dig b = true then some (r.length + 1) else none
  | _ => none
def digitsR (r : Str) : R (Int × Str) := match zeroD r with
  | some k => .er k 2
  | none => .ok (digsR 0 r)
def numF (sgn : Int) (k : Nat) : R (Int × Str) → R (Int × Str)
  | .er a b => .er a b
  | .ok (n, r) => if 1000000000000000 < n then .er k 5 else .ok (sgn * n, r)
def minusR (k : Nat) : Str → R (Int × Str)
  | [] => .er 0 3
  | d :: r => if dig d = true ∧ ¬ d.toNat = 48 then numF (-1) k (digitsR (d :: r)) else .er (r.length + 1) 2
def numR : Str → R (Int × Str)
  | [] => .er 0 3
  | c :: r => if c.toNat = 45 then minusR (r.length + 1) r else numF 1 (r.length + 1) (digitsR (c :: r))
/-- a byte behind a backslash -/
def escR : Str → R (UInt8 × Str)
  | [] => .er 0 3
  | e :: r => if e.toNat = 34 ∨ e.toNat = 92 then .ok (e, r) else if e.toNat = 110 then .ok (10, r) else .er (r.length + 1) 2
def charR : Str → R (UInt8 × Str)
  | [] => .er 0 3
  | c :: r => if c.toNat = 92 then escR r else .ok (c, r)
/-- a string behind its opening quote, of which k bytes are read; fuel: the bytes that are left -/
def strR : Nat → Nat → Str → R (Str × Str)
  | 0, _, _ => .er 0 3
  | f + 1, k, r => match r with
    | [] => .er 0 3
    | c :: r' => if c.toNat = 34 then .ok ([], r') else if prt c = false then .er (r'.length + 1) 2 else if k = 200 then .er (r'.length + 1) 4
      else match charR (c :: r') with
        | .er a b => .er a b
        | .ok (x, r2) => match strR f (k + 1) r2 with
          | .er a b => .er a b
          | .ok (l, r3) => .ok (x :: l, r3)
def nameR : Nat → Str → R (Str × Str)
  | _, [] => .er 0 3
  | k, c :: r => if c.toNat = 34 ∧ ¬ k = 0 then .ok ([], r) else if nmByte c = false then .er (r.length + 1) 2 else if k = 40 then .er (r.length + 1) 4
    else match nameR (k + 1) r with
      | .er a b => .er a b
      | .ok (l, r') => .ok (c :: l, r')

abbrev PV := Bool → Nat → Str → R (T × Nat × Str)
/-- the elements of a list behind its opening bracket or a comma; room for m more -/
def elemsR (pv : PV) : Nat → Nat → Str → R (List T × Nat × Str)
  | m, n, r => match pv (decide (m = 0)) n r with
    | .er a b => .er a b
    | .ok (t, n', r') => match skp r' with
      | [] => .er 0 3
      | c :: r2 => if c.toNat = 93 then .ok ([t], n', r2) else if c.toNat = 44 then
          (match m with
          | 0 => .er 0 0
          | m + 1 => match elemsR pv m n' r2 with
            | .er a b => .er a b
            | .ok (l, n2, r3) => .ok (t :: l, n2, r3))
        else .er (r2.length + 1) 2
/-- one field -/
def fieldR (pv : PV) (m : Nat) (seen : List Str) (n : Nat) (r : Str) : R ((Str × T) × Nat × Str) := match skp r with
  | [] => .er 0 3
  | c :: r1 => if ¬ c.toNat = 34 then .er (r1.length + 1) 2 else if m = 0 then .er (r1.length + 1) 4 else match nameR 0 r1 with
    | .er a b => .er a b
    | .ok (nm, r2) => if nm ∈ seen then .er (r1.length + 1) 8 else match byteR 58 (skp r2) with
      | .er a b => .er a b
      | .ok r3 => match pv false n r3 with
        | .er a b => .er a b
        | .ok (t, n', r4) => .ok ((nm, t), n', r4)
def membersR (pv : PV) : Nat → List Str → Nat → Str → R (List (Str × T) × Nat × Str)
  | m, seen, n, r => match fieldR pv m seen n r with
    | .er a b => .er a b
    | .ok (p, n', r') => match skp r' with
      | [] => .er 0 3
      | c :: r2 => if c.toNat = 125 then .ok ([p], n', r2) else if c.toNat = 44 then
          (match m with
          | 0 => .er 0 0
          | m + 1 => match membersR pv m (seen ++ [p.1]) n' r2 with
            | .er a b => .er a b
            | .ok (l, n2, r3) => .ok (p :: l, n2, r3))
        else .er (r2.length + 1) 2
/-- the map of a list of fields -/
def mapL (l : List (Str × T)) : List (Str × T) := l.foldl (fun M p => pf p.1 p.2 false M) []
def listR (pv : PV) (n : Nat) (r : Str) : R (T × Nat × Str) := match skp r with
  | [] => .er 0 3
  | c :: r1 => if c.toNat = 93 then .ok (.mk 4 0 [] [] [], n, r1) else match elemsR pv 64 n r with
    | .er a b => .er a b
    | .ok (l, n', r') => .ok (.mk 4 0 [] l [], n', r')
def mapR (pv : PV) (n : Nat) (r : Str) : R (T × Nat × Str) := match skp r with
  | [] => .er 0 3
  | c :: r1 => if c.toNat = 125 then .ok (.mk 5 0 [] [] [], n, r1) else match membersR pv 64 [] n r with
    | .er a b => .er a b
    | .ok (l, n', r') => .ok (.mk 5 0 [] [] (mapL l), n', r')
def wrapR {α : Type} (n : Nat) (f : α → T) : R (α × Str) → R (T × Nat × Str)
  | .er a b => .er a b
  | .ok (a, r) => .ok (f a, n, r)
def wordV (n : Nat) (t : T) : R Str → R (T × Nat × Str)
  | .er a b => .er a b
  | .ok r => .ok (t, n, r)
/-- a value that begins with c; n values have begun -/
def bodyR (pv : PV) (n : Nat) (c : UInt8) (r : Str) : R (T × Nat × Str) :=
  if c.toNat = 110 then wordV n (.mk 0 0 [] [] []) (wordR [110, 117, 108, 108] (c :: r))
  else if c.toNat = 116 then wordV n (.mk 1 1 [] [] []) (wordR [116, 114, 117, 101] (c :: r))
  else if c.toNat = 102 then wordV n (.mk 1 0 [] [] []) (wordR [102, 97, 108, 115, 101] (c :: r))
  else if c.toNat = 34 then wrapR n (fun l => .mk 3 0 l [] []) (strR (r.length + 1) 0 r)
  else if c.toNat = 91 then listR pv n r
  else if c.toNat = 123 then mapR pv n r
  else wrapR n (fun k => .mk 2 k [] [] []) (numR (c :: r))
/-- a value; so many levels are left -/
def valR : Nat → PV
  | f, full, n, r => match skp r with
    | [] => .er 0 3
    | c :: r1 => if bgn c = false then .er (r1.length + 1) 2 else if full = true ∨ f = 0 ∨ n = 600 then .er (r1.length + 1) 4
      else match f with
        | 0 => .er 0 0
        | f + 1 => bodyR (valR f) (n + 1) c r1
/-- a text -/
def textR (s : Str) : R T := match valR 12 false 0 s with
  | .er a b => .er a b
  | .ok (t, _, r) => match skp r with
    | [] => .ok t
    | _ :: r' => .er (r'.length + 1) 2
end Go.Proofs.Ytinenbgdkchghaa
