/- SHA-256, plain: words of 32 bits, the schedule, the rounds, the padding. -/
namespace Go.Proofs.YtdjdoepnljdlcaaDoor
namespace Sh

def rr (x : UInt32) (n : UInt32) : UInt32 := x >>> n ||| x <<< (32 - n)
def turn (x : UInt32) (i j k : UInt32) : UInt32 := rr x i ^^^ rr x j ^^^ rr x k

def K : List UInt32 := [
  0x428a2f98, 0x71374491, 0xb5c0fbcf, 0xe9b5dba5, 0x3956c25b, 0x59f111f1, 0x923f82a4, 0xab1c5ed5,
  0xd807aa98, 0x12835b01, 0x243185be, 0x550c7dc3, 0x72be5d74, 0x80deb1fe, 0x9bdc06a7, 0xc19bf174,
  0xe49b69c1, 0xefbe4786, 0x0fc19dc6, 0x240ca1cc, 0x2de92c6f, 0x4a7484aa, 0x5cb0a9dc, 0x76f988da,
  0x983e5152, 0xa831c66d, 0xb00327c8, 0xbf597fc7, 0xc6e00bf3, 0xd5a79147, 0x06ca6351, 0x14292967,
  0x27b70a85, 0x2e1b2138, 0x4d2c6dfc, 0x53380d13, 0x650a7354, 0x766a0abb, 0x81c2c92e, 0x92722c85,
  0xa2bfe8a1, 0xa81a664b, 0xc24b8b70, 0xc76c51a3, 0xd192e819, 0xd6990624, 0xf40e3585, 0x106aa070,
  0x19a4c116, 0x1e376c08, 0x2748774c, 0x34b0bcb5, 0x391c0cb3, 0x4ed8aa4a, 0x5b9cca4f, 0x682e6ff3,
  0x748f82ee, 0x78a5636f, 0x84c87814, 0x8cc70208, 0x90befffa, 0xa4506ceb, 0xbef9a3f7, 0xc67178f2]

/-- the word of four bytes -/
def word (b : Nat → UInt8) (i : Nat) : UInt32 :=
  (b (4 * i)).toUInt32 <<< 24 ||| (b (4 * i + 1)).toUInt32 <<< 16 ||| (b (4 * i + 2)).toUInt32 <<< 8 ||| (b (4 * i + 3)).toUInt32

def next (l : List UInt32) (i : Nat) : UInt32 :=
  l.getD (i - 16) 0 + (rr (l.getD (i - 15) 0) 7 ^^^ rr (l.getD (i - 15) 0) 18 ^^^ l.getD (i - 15) 0 >>> 3) + l.getD (i - 7) 0 +
    (rr (l.getD (i - 2) 0) 17 ^^^ rr (l.getD (i - 2) 0) 19 ^^^ l.getD (i - 2) 0 >>> 10)

/-- the first i words of the schedule -/
def sched (b : Nat → UInt8) : Nat → List UInt32
  | 0 => []
  | i + 1 => sched b i ++ [if i < 16 then word b i else next (sched b i) i]

structure St where
  a : UInt32
  b : UInt32
  c : UInt32
  d : UInt32
  e : UInt32
  f : UInt32
  g : UInt32
  h : UInt32
deriving DecidableEq

def tt (s : St) (k w : UInt32) : UInt32 := s.h + turn s.e 6 11 25 + (s.e &&& s.f ^^^ ~~~s.e &&& s.g) + k + w
def uu (s : St) : UInt32 := turn s.a 2 13 22 + (s.a &&& s.b ^^^ s.a &&& s.c ^^^ s.b &&& s.c)
def step (s : St) (k w : UInt32) : St := ⟨tt s k w + uu s, s.a, s.b, s.c, s.d + tt s k w, s.e, s.f, s.g⟩
def rnds (ws : List UInt32) (s : St) : Nat → St
  | 0 => s
  | i + 1 => step (rnds ws s i) (K.getD i 0) (ws.getD i 0)
def St.add (s t : St) : St := ⟨s.a + t.a, s.b + t.b, s.c + t.c, s.d + t.d, s.e + t.e, s.f + t.f, s.g + t.g, s.h + t.h⟩
/-- a block -/
def mix (s : St) (b : Nat → UInt8) : St := s.add (rnds (sched b 64) s 64)

def s0 : St := ⟨0x6a09e667, 0xbb67ae85, 0x3c6ef372, 0xa54ff53a, 0x510e527f, 0x9b05688c, 0x1f83d9ab, 0x5be0cd19⟩

def zeros (n : Nat) : Nat := (119 - n % 64) % 64
def pad (n : Nat) : List UInt8 := 128 :: (List.replicate (zeros n) 0 ++ (List.range 8).map fun i => UInt8.ofNat (n * 8 / 2 ^ (8 * (7 - i))))

/-- the states behind the blocks of a string whose length is a multiple of 64 -/
def runG (f : St → (Nat → UInt8) → St) (l : List UInt8) : Nat → St → St
  | 0, s => s
  | n + 1, s => runG f (l.drop 64) n (f s fun i => l.getD i 0)
theorem runG_snoc (f : St → (Nat → UInt8) → St) (k : Nat) : ∀ (l : List UInt8) (s : St), runG f l (k + 1) s = f (runG f l k s) (fun j => l.getD (64 * k + j) 0) := by
  induction k with
  | zero => intro l s; simp [runG]
  | succ k ih =>
    intro l s
    rw [runG, ih, runG]
    congr 1
    funext j
    rw [List.getD_eq_getElem?_getD, List.getD_eq_getElem?_getD, List.getElem?_drop]
    congr 2
    omega
def run (l : List UInt8) (n : Nat) (s : St) : St := runG mix l n s
theorem run_snoc (k : Nat) (l : List UInt8) (s : St) : run l (k + 1) s = mix (run l k s) (fun j => l.getD (64 * k + j) 0) := runG_snoc mix k l s

def outW (x : UInt32) : List UInt8 := [(x >>> 24).toUInt8, (x >>> 16).toUInt8, (x >>> 8).toUInt8, x.toUInt8]
def St.out (s : St) : List UInt8 := outW s.a ++ outW s.b ++ outW s.c ++ outW s.d ++ outW s.e ++ outW s.f ++ outW s.g ++ outW s.h
def sha (l : List UInt8) : List UInt8 := (run (l ++ pad l.length) ((l.length + 72) / 64) s0).out

theorem sha_len (l : List UInt8) : (sha l).length = 32 := rfl
end Sh
end Go.Proofs.YtdjdoepnljdlcaaDoor
