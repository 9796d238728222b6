/- SHA-256 on numbers and lists: no program. -/
namespace Go.Proofs.YtmlacbdonkfbdaaDoor

/-- A word rotated to the right. -/
def rr (x n : Nat) : Nat := x * 2 ^ (32 - n) % 4294967296 ||| x / 2 ^ n
def xr (x : Nat) (ns : List Nat) : Nat := ns.foldl (fun j n => j ^^^ rr x n) 0
def chx (x y z : Nat) : Nat := (x &&& y) ^^^ ((4294967295 - x) &&& z)
def majx (x y z : Nat) : Nat := (x &&& y) ^^^ (x &&& z) ^^^ (y &&& z)
def kl : List Nat := [
  0x428a2f98, 0x71374491, 0xb5c0fbcf, 0xe9b5dba5, 0x3956c25b, 0x59f111f1, 0x923f82a4, 0xab1c5ed5,
  0xd807aa98, 0x12835b01, 0x243185be, 0x550c7dc3, 0x72be5d74, 0x80deb1fe, 0x9bdc06a7, 0xc19bf174,
  0xe49b69c1, 0xefbe4786, 0x0fc19dc6, 0x240ca1cc, 0x2de92c6f, 0x4a7484aa, 0x5cb0a9dc, 0x76f988da,
  0x983e5152, 0xa831c66d, 0xb00327c8, 0xbf597fc7, 0xc6e00bf3, 0xd5a79147, 0x06ca6351, 0x14292967,
  0x27b70a85, 0x2e1b2138, 0x4d2c6dfc, 0x53380d13, 0x650a7354, 0x766a0abb, 0x81c2c92e, 0x92722c85,
  0xa2bfe8a1, 0xa81a664b, 0xc24b8b70, 0xc76c51a3, 0xd192e819, 0xd6990624, 0xf40e3585, 0x106aa070,
  0x19a4c116, 0x1e376c08, 0x2748774c, 0x34b0bcb5, 0x391c0cb3, 0x4ed8aa4a, 0x5b9cca4f, 0x682e6ff3,
  0x748f82ee, 0x78a5636f, 0x84c87814, 0x8cc70208, 0x90befffa, 0xa4506ceb, 0xbef9a3f7, 0xc67178f2]
def iv : List Nat := [0x6a09e667, 0xbb67ae85, 0x3c6ef372, 0xa54ff53a, 0x510e527f, 0x9b05688c, 0x1f83d9ab, 0x5be0cd19]
def kt (t : Nat) : Nat := kl.getD t 0
def by4 (b : List Nat) (t : Nat) : Nat := ((b.getD (4 * t) 0 * 256 + b.getD (4 * t + 1) 0) * 256 + b.getD (4 * t + 2) 0) * 256 + b.getD (4 * t + 3) 0
/-- The first words of a block's schedule. -/
def sch (b : List Nat) : Nat → List Nat
  | 0 => []
  | n + 1 =>
    let l := sch b n
    l ++ [if n < 16 then by4 b n else ((xr (l.getD (n - 2) 0) [17, 19] ^^^ l.getD (n - 2) 0 / 1024) + l.getD (n - 7) 0 + (xr (l.getD (n - 15) 0) [7, 18] ^^^ l.getD (n - 15) 0 / 8) + l.getD (n - 16) 0) % 4294967296]
structure V8 where
  (a b c d e f g h : Nat)
def V8.list (v : V8) : List Nat := [v.a, v.b, v.c, v.d, v.e, v.f, v.g, v.h]
def V8.of (l : List Nat) : V8 := ⟨l.getD 0 0, l.getD 1 0, l.getD 2 0, l.getD 3 0, l.getD 4 0, l.getD 5 0, l.getD 6 0, l.getD 7 0⟩
def V8.lt (v : V8) : Prop := v.a < 4294967296 ∧ v.b < 4294967296 ∧ v.c < 4294967296 ∧ v.d < 4294967296 ∧ v.e < 4294967296 ∧ v.f < 4294967296 ∧ v.g < 4294967296 ∧ v.h < 4294967296
def tt1 (v : V8) (k w : Nat) : Nat := (v.h + xr v.e [6, 11, 25] + chx v.e v.f v.g + k + w) % 4294967296
def tt2 (v : V8) : Nat := (xr v.a [2, 13, 22] + majx v.a v.b v.c) % 4294967296
def rnd (k w : Nat) (v : V8) : V8 := ⟨(tt1 v k w + tt2 v) % 4294967296, v.a, v.b, v.c, (v.d + tt1 v k w) % 4294967296, v.e, v.f, v.g⟩
def rnds (ws : List Nat) (v : V8) : Nat → V8
  | 0 => v
  | t + 1 => rnd (kt t) (ws.getD t 0) (rnds ws v t)
def plusL (s t : List Nat) : List Nat := List.zipWith (fun a b => (a + b) % 4294967296) s t
/-- What a block adds. -/
def absL (s b : List Nat) : List Nat := plusL s (rnds (sch b 64) (V8.of (plusL s iv)) 64).list
def zero8 : List Nat := [0, 0, 0, 0, 0, 0, 0, 0]
/-- The blocks of a string whose length is a multiple of 64, one after the other. -/
def absB (s : List Nat) : Nat → List Nat → List Nat
  | 0, _ => s
  | n + 1, l => absB (absL s (l.take 64)) n (l.drop 64)
def outB (s : List Nat) : List Nat := (plusL s iv).flatMap fun w => [w / 16777216 % 256, w / 65536 % 256, w / 256 % 256, w % 256]
def be8 (n : Nat) : List Nat := [n / 72057594037927936 % 256, n / 281474976710656 % 256, n / 1099511627776 % 256, n / 4294967296 % 256, n / 16777216 % 256, n / 65536 % 256, n / 256 % 256, n % 256]
/-- How many bytes 0 follow n bytes and the byte 128. -/
def nz (n : Nat) : Nat := (119 - n % 64) % 64
def padL (zs : List Nat) : List Nat := zs ++ 128 :: (List.replicate (nz zs.length) 0 ++ be8 (8 * zs.length))
def shaL (zs : List Nat) : List Nat := outB (absB zero8 ((padL zs).length / 64) (padL zs))

theorem sha_nil : shaL [] = [0xe3, 0xb0, 0xc4, 0x42, 0x98, 0xfc, 0x1c, 0x14, 0x9a, 0xfb, 0xf4, 0xc8, 0x99, 0x6f, 0xb9, 0x24, 0x27, 0xae, 0x41, 0xe4, 0x64, 0x9b, 0x93, 0x4c, 0xa4, 0x95, 0x99, 0x1b, 0x78, 0x52, 0xb8, 0x55] := by decide +kernel
theorem sha_abc : shaL [97, 98, 99] = [0xba, 0x78, 0x16, 0xbf, 0x8f, 0x01, 0xcf, 0xea, 0x41, 0x41, 0x40, 0xde, 0x5d, 0xae, 0x22, 0x23, 0xb0, 0x03, 0x61, 0xa3, 0x96, 0x17, 0x7a, 0x9c, 0xb4, 0x10, 0xff, 0x61, 0xf2, 0x00, 0x15, 0xad] := by decide +kernel
end Go.Proofs.YtmlacbdonkfbdaaDoor
