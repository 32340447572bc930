/-
  THE PLAIN MATHEMATICS OF SHA-256: a block's words, its rounds, a text's blocks, its padding. Nothing of the program.
-/
import Derived.WalkKit
namespace Go.Proofs.YtlgnlijgmibmmaaGreatDoor
namespace S
def rot (k : Nat) (x : BitVec 32) : BitVec 32 := x >>> k ||| x <<< (32 - k)
def s0 (x : BitVec 32) : BitVec 32 := rot 7 x ^^^ rot 18 x ^^^ x >>> 3
def s1 (x : BitVec 32) : BitVec 32 := rot 17 x ^^^ rot 19 x ^^^ x >>> 10
def S0 (x : BitVec 32) : BitVec 32 := rot 2 x ^^^ rot 13 x ^^^ rot 22 x
def S1 (x : BitVec 32) : BitVec 32 := rot 6 x ^^^ rot 11 x ^^^ rot 25 x
def ch (e f g : BitVec 32) : BitVec 32 := (e &&& f) ^^^ (~~~e &&& g)
def maj (a b c : BitVec 32) : BitVec 32 := (a &&& b) ^^^ (a &&& c) ^^^ (b &&& c)
def Ks : List (BitVec 32) := [0x428a2f98#32, 0x71374491#32, 0xb5c0fbcf#32, 0xe9b5dba5#32, 0x3956c25b#32, 0x59f111f1#32, 0x923f82a4#32, 0xab1c5ed5#32,
  0xd807aa98#32, 0x12835b01#32, 0x243185be#32, 0x550c7dc3#32, 0x72be5d74#32, 0x80deb1fe#32, 0x9bdc06a7#32, 0xc19bf174#32,
  0xe49b69c1#32, 0xefbe4786#32, 0x0fc19dc6#32, 0x240ca1cc#32, 0x2de92c6f#32, 0x4a7484aa#32, 0x5cb0a9dc#32, 0x76f988da#32,
  0x983e5152#32, 0xa831c66d#32, 0xb00327c8#32, 0xbf597fc7#32, 0xc6e00bf3#32, 0xd5a79147#32, 0x06ca6351#32, 0x14292967#32,
  0x27b70a85#32, 0x2e1b2138#32, 0x4d2c6dfc#32, 0x53380d13#32, 0x650a7354#32, 0x766a0abb#32, 0x81c2c92e#32, 0x92722c85#32,
  0xa2bfe8a1#32, 0xa81a664b#32, 0xc24b8b70#32, 0xc76c51a3#32, 0xd192e819#32, 0xd6990624#32, 0xf40e3585#32, 0x106aa070#32,
  0x19a4c116#32, 0x1e376c08#32, 0x2748774c#32, 0x34b0bcb5#32, 0x391c0cb3#32, 0x4ed8aa4a#32, 0x5b9cca4f#32, 0x682e6ff3#32,
  0x748f82ee#32, 0x78a5636f#32, 0x84c87814#32, 0x8cc70208#32, 0x90befffa#32, 0xa4506ceb#32, 0xbef9a3f7#32, 0xc67178f2#32]
def K (t : Nat) : BitVec 32 := Ks.getD t 0#32
def Fs : List (BitVec 32) := [0x6a09e667#32, 0xbb67ae85#32, 0x3c6ef372#32, 0xa54ff53a#32, 0x510e527f#32, 0x9b05688c#32, 0x1f83d9ab#32, 0x5be0cd19#32]
def first (i : Nat) : BitVec 32 := Fs.getD i 0#32
def B (c : UInt8) : BitVec 32 := BitVec.ofNat 32 c.toNat
/-- Word t of a block. -/
def word (b : Nat → UInt8) (t : Nat) : BitVec 32 := B (b (4 * t)) <<< 24 ||| B (b (4 * t + 1)) <<< 16 ||| B (b (4 * t + 2)) <<< 8 ||| B (b (4 * t + 3))
def upd {α : Type} (f : Nat → α) (k : Nat) (v : α) : Nat → α := fun i => if i = k then v else f i
/-- The words behind k steps of growth. -/
def grown (m : Nat → BitVec 32) : Nat → Nat → BitVec 32
  | 0 => m
  | k + 1 => upd (grown m k) (16 + k) (grown m k k + s0 (grown m k (k + 1)) + grown m k (k + 9) + s1 (grown m k (k + 14)))
/-- a..h behind k rounds, h first of the tuple's places 0..7. -/
def round (k w : BitVec 32) (s : Nat → BitVec 32) : Nat → BitVec 32 :=
  let u := s 7 + S1 (s 4) + ch (s 4) (s 5) (s 6) + k + w
  let v := S0 (s 0) + maj (s 0) (s 1) (s 2)
  fun i => match i with
    | 0 => u + v | 1 => s 0 | 2 => s 1 | 3 => s 2 | 4 => s 3 + u | 5 => s 4 | 6 => s 5 | 7 => s 6 | _ => 0#32
def rounds (w : Nat → BitVec 32) (s : Nat → BitVec 32) : Nat → Nat → BitVec 32
  | 0 => s
  | k + 1 => round (K k) (w k) (rounds w s k)
def words (b : Nat → UInt8) : Nat → BitVec 32 := grown (fun i => if i < 16 then word b i else 0#32) 48
def turn (s : Nat → BitVec 32) (b : Nat → UInt8) : Nat → BitVec 32 := fun i => s i + rounds (words b) s 64 i
/-- The state behind k blocks. -/
def blocks (b : Nat → UInt8) : Nat → Nat → BitVec 32
  | 0 => first
  | k + 1 => turn (blocks b k) (fun i => b (64 * k + i))
def byteAt (L : List UInt8) (i : Nat) : UInt8 := L.getD i 0
def told (s : Nat → BitVec 32) (i : Nat) : UInt8 := UInt8.ofNat ((s (i / 4)).toNat / 2 ^ (24 - 8 * (i % 4)))
end S
end Go.Proofs.YtlgnlijgmibmmaaGreatDoor
