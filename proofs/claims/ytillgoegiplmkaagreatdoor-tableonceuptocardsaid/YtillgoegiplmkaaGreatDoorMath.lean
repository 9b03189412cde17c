import Derived.Lib.BitFns
namespace Go.Proofs.YtillgoegiplmkaaGreatDoor

/-- How many bytes a number has: its bits (0 has one, too) in groups of seven. -/
def sz (n : Int) : Nat := (Lib.bitLen (Nat.lor n.toNat 1) + 6) / 7

/-- The digits of n from the one with the place k down to the last; all but the last with the mark 128. -/
def tl (n : Int) : Nat → List Int
  | 0 => [n % 128]
  | k + 1 => (n / 128 ^ (k + 1) % 128 + 128) :: tl n k

/-- A number as bytes. -/
def enc (n : Int) : List Int := tl n (sz n - 1)

/-- Reading on: the number so far, how many bytes are read, what is left. The answer: number, bytes, error. -/
def rdGo (v i : Int) : List Int → Int × Int × Int
  | [] => (0, 0, 10)
  | c :: r =>
    if i = 0 ∧ c = 128 then (0, 0, 11)
    else if 144115188075855871 < v then (0, 0, 12)
    else if c < 128 then (v * 128 + c, i + 1, 0)
    else rdGo (v * 128 + (c - 128)) (i + 1) r

def rd (b : List Int) : Int × Int × Int := rdGo 0 0 b

end Go.Proofs.YtillgoegiplmkaaGreatDoor

namespace Go.Proofs.YtillgoegiplmkaaGreatDoor

end Go.Proofs.YtillgoegiplmkaaGreatDoor

namespace Go.Proofs.YtillgoegiplmkaaGreatDoor

def Nums (l : List Int) : Prop := ∀ n ∈ l, 0 ≤ n ∧ n ≤ 18446744073709551615

/-- All, with what is gathered so far. -/
def alGo : Nat → List Int → List Int → List Int × Int
  | 0, acc, _ => (acc, 0)
  | f + 1, acc, zs => if zs = [] then (acc, 0) else if (rd zs).2.2 ≠ 0 then ([], (rd zs).2.2) else alGo f (acc ++ [(rd zs).1]) (zs.drop (rd zs).2.1.toNat)

def al (zs : List Int) : List Int × Int := alGo zs.length [] zs

/-- Numbers as bytes, one behind the other. -/
def jn (l : List Int) : List Int := l.flatMap enc
end Go.Proofs.YtillgoegiplmkaaGreatDoor
