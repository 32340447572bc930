/-
  The disk in plain words: files, their seen and safe bytes, their dirty sectors, the power.
-/
import Derived.Test.YtobfijpfdibccaaBase
namespace Go.Proofs.Ytobfijpfdibccaa
open Go.RowKit
abbrev Key := List UInt8
structure AF where
  seen : List UInt8
  safe : List UInt8
  dirty : Nat → Bool
structure AF.Ok (F : AF) : Prop where
  le : F.safe.length ≤ F.seen.length
  most : F.seen.length ≤ 1048576
  dl : ∀ s, F.dirty s = true → 64 * s < F.seen.length
  clean : ∀ i, i < F.seen.length → F.dirty (i / 64) = false → i < F.safe.length ∧ F.seen[i]? = F.safe[i]?
structure AP where
  off : Bool
  opn : Bool
  arm : Int
  what : Int
  fall : Int
structure AP.Ok (P : AP) : Prop where
  a0 : 0 ≤ P.arm
  a1 : P.arm < 9223372036854775808
  f0 : 0 ≤ P.fall
  f1 : P.fall < 9223372036854775808
  w0 : 0 ≤ P.what
  w1 : P.what ≤ 2
def AP.fell (P : AP) : Int := if 0 < P.fall then P.fall - 1 else P.fall
def AP.count (P : AP) (what : Int) : Int × AP :=
  if P.fall = 1 then (9, { P with fall := 0, off := true, opn := true })
  else if 0 < P.arm ∧ (P.what = 0 ∨ P.what = what) then (if P.arm = 1 then 40 else 0, { P with fall := P.fell, arm := P.arm - 1 })
  else (0, { P with fall := P.fell })
abbrev FList := List (Key × AF)
def fget (fs : FList) (k : Key) : Option AF := (fs.find? (fun p => p.1 == k)).map (·.2)
def fins (x : Key × AF) : FList → FList
  | [] => [x]
  | y :: r => if bytesBefore x.1 y.1 then x :: y :: r else y :: fins x r
def fdel (fs : FList) (k : Key) : FList := fs.filter (fun p => !(p.1 == k))
def fput (fs : FList) (k : Key) (F : AF) : FList := fins (k, F) (fdel fs k)
def fset (fs : FList) (k : Key) (F : AF) : FList := fs.map (fun p => if p.1 == k then (p.1, F) else p)
def fused (fs : FList) : Nat := (fs.map (fun p => p.2.seen.length)).sum
def fkeys (fs : FList) : List Key := fs.map (·.1)
structure AD where
  cap : Int
  fs : FList
  pow : AP
def nameOk (k : Key) : Bool := decide (1 ≤ k.length) && decide (k.length ≤ 32) && k.all (fun b => decide (33 ≤ b.toNat) && decide (b.toNat ≤ 126))
structure AD.Ok (A : AD) : Prop where
  c0 : 0 ≤ A.cap
  c1 : A.cap ≤ 16777216
  sorted : A.fs.Pairwise (fun p q => bytesBefore p.1 q.1 = true)
  names : ∀ p ∈ A.fs, nameOk p.1 = true
  few : A.fs.length ≤ 16
  files : ∀ p ∈ A.fs, p.2.Ok
  space : (fused A.fs : Int) ≤ A.cap
  pow : A.pow.Ok
def AF.new : AF := ⟨[], [], fun _ => false⟩
def AF.write (F : AF) (at_ : Nat) (t : List UInt8) : AF :=
  if t = [] then F else ⟨F.seen.take at_ ++ t ++ F.seen.drop (at_ + t.length), F.safe, fun s => F.dirty s || (decide (at_ / 64 ≤ s) && decide (s ≤ (at_ + t.length - 1) / 64))⟩
def AF.sync (F : AF) : AF := ⟨F.seen, F.seen, fun _ => false⟩
def AF.trunc (F : AF) (n : Nat) : AF := ⟨F.seen.take n, F.safe.take n, fun s => F.dirty s && decide (64 * s < n)⟩
structure AFate where
  file : Key
  sector : Int
  kind : Int
  bytes : List UInt8
def fateOf (l : List AFate) (k : Key) (s : Nat) : Option AFate := l.find? (fun x => x.file == k && decide (x.sector = (s : Int)))
def hits (f : Option AFate) : Bool := match f with
  | some x => decide (x.kind = 1 ∨ x.kind = 2)
  | none => false
/-- How many sectors the file has. -/
def AF.nsec (F : AF) : Nat := (F.seen.length + 63) / 64
def AF.dirtyL (F : AF) : List Nat := (List.range F.nsec).filter F.dirty
def AF.len (F : AF) (ft : Nat → Option AFate) : Nat :=
  (List.range F.nsec).foldl (fun m s => if F.dirty s && hits (ft s) then max m (min (64 * s + 64) F.seen.length) else m) F.safe.length
def AF.after (F : AF) (ft : Nat → Option AFate) (i : Nat) : UInt8 :=
  if F.dirty (i / 64) then
    match ft (i / 64) with
    | some x => if x.kind = 1 then F.seen.getD i 0 else if x.kind = 2 then x.bytes.getD (i % 64) 0 else F.safe.getD i 0
    | none => F.safe.getD i 0
  else F.safe.getD i 0
def AF.left (F : AF) (ft : Nat → Option AFate) : List UInt8 := (List.range (F.len ft)).map (F.after ft)
def AF.crash (F : AF) (ft : Nat → Option AFate) : AF := ⟨F.left ft, F.left ft, fun _ => false⟩
/-! ### answers and next states -/
def AD.flen (A : AD) (k : Key) : Int := match fget A.fs k with
  | some F => F.seen.length
  | none => 0
def AD.fits (A : AD) (k : Key) (at_ n : Int) : Int :=
  if nameOk k = false ∨ at_ < 0 ∨ at_ > A.flen k then 1
  else if max (A.flen k) (at_ + n) > 1048576 then 3
  else if (fget A.fs k).isNone = true ∧ 16 ≤ A.fs.length then 6
  else if (fused A.fs : Int) - A.flen k + max (A.flen k) (at_ + n) > A.cap then 41
  else 0
def AD.write (A : AD) (k : Key) (at_ : Int) (t : List UInt8) : Int × AD :=
  if A.pow.off = true then (9, A)
  else if A.fits k at_ t.length ≠ 0 then (A.fits k at_ t.length, A)
  else if (A.pow.count 1).1 ≠ 0 then ((A.pow.count 1).1, { A with pow := (A.pow.count 1).2 })
  else match fget A.fs k with
    | some F => (0, ⟨A.cap, fset A.fs k (F.write at_.toNat t), (A.pow.count 1).2⟩)
    | none => (0, ⟨A.cap, fput A.fs k (AF.new.write at_.toNat t), (A.pow.count 1).2⟩)
def AD.sync (A : AD) (k : Key) : Int × AD :=
  if A.pow.off = true then (9, A)
  else match fget A.fs k with
    | none => (5, A)
    | some F => if (A.pow.count 2).1 ≠ 0 then ((A.pow.count 2).1, { A with pow := (A.pow.count 2).2 }) else (0, ⟨A.cap, fset A.fs k F.sync, (A.pow.count 2).2⟩)
def AD.trunc (A : AD) (k : Key) (n : Int) : Int × AD :=
  if A.pow.off = true then (9, A)
  else match fget A.fs k with
    | none => (5, A)
    | some F => if n < 0 ∨ n > F.seen.length then (1, A) else (0, { A with fs := fset A.fs k (F.trunc n.toNat) })
def AD.rename (A : AD) (k k' : Key) : Int × AD :=
  if A.pow.off = true then (9, A)
  else match fget A.fs k with
    | none => (5, A)
    | some F => if nameOk k' = false then (1, A) else (0, { A with fs := fput (fdel A.fs k) k' F })
def AD.remove (A : AD) (k : Key) : Int × AD :=
  if A.pow.off = true then (9, A)
  else match fget A.fs k with
    | none => (5, A)
    | some _ => (0, { A with fs := fdel A.fs k })
def AD.read (A : AD) (k : Key) (at_ n : Int) : List UInt8 × Int :=
  if A.pow.off = true then ([], 9)
  else match fget A.fs k with
    | none => ([], 5)
    | some F => if at_ < 0 ∨ n < 0 then ([], 1) else ((F.seen.drop at_.toNat).take n.toNat, 0)
def AD.size (A : AD) (k : Key) : Int × Int :=
  if A.pow.off = true then (0, 9)
  else match fget A.fs k with
    | none => (0, 5)
    | some F => (F.seen.length, 0)
def AD.list (A : AD) : List Key := if A.pow.off = true then [] else fkeys A.fs
def AD.dirty (A : AD) (k : Key) : List Nat :=
  if A.pow.off = true then []
  else match fget A.fs k with
    | none => []
    | some F => F.dirtyL
def AD.armed (A : AD) (n what : Int) : AD :=
  if n < 1 ∨ what < 0 ∨ what > 2 then { A with pow := { A.pow with arm := 0, what := 0 } } else { A with pow := { A.pow with arm := n, what := what } }
def AD.fallen (A : AD) (n : Int) : AD := { A with pow := { A.pow with fall := max n 0 } }
def AD.crash (A : AD) (l : List AFate) : AD :=
  if A.pow.off = true ∧ A.pow.opn = false then A
  else ⟨A.cap, A.fs.map (fun p => (p.1, p.2.crash (fateOf l p.1))), ⟨true, false, 0, 0, 0⟩⟩
def AD.on (A : AD) : AD :=
  let C := if A.pow.opn = true then A.crash [] else A
  { C with pow := { C.pow with off := false } }
end Go.Proofs.Ytobfijpfdibccaa
