import Derived.Test.YtlmjddlpenmpkaaF1
namespace Go.Proofs.Ytlmjddlpenmpkaa
open Go.RowKit Go.Shelf

/-- Three weights. -/
def twZ (A B C : Nat) (j : Nat) : Int := if j = 0 then A else if j = 1 then B else C
/-- A denominator that serves all stays. -/
def twL (z : Nat → Int) (n tw : Nat) : Nat :=
  (partsL (2 ^ n - 1)).foldl (fun l x => if x = 0 then l else (partsL (x &&& tw)).foldl (fun l once =>
    let D := (ofS z x).toNat ^ (pop once + 1)
    Nat.lcm l (D / Nat.gcd (stN z (kindsL once)).natAbs D)) l) 1
def twX (z : Nat → Int) (n tw : Nat) : Int := waitC z (2 ^ n - 1) tw (twL z n tw) * ofS z (2 ^ n - 1)
/-- What is asked of one set. -/
def twOk (z : Nat → Int) (n tw : Nat) (L : Nat) (X : Int) : Bool :=
  decide (1 ≤ L) && decide (L ≤ 4611686018427387903) && (partsL (2 ^ n - 1)).all (fun x => x == 0 || (partsL (x &&& tw)).all fun once => (stN z (kindsL once) * (L : Int)) % (((ofS z x).toNat ^ (pop once + 1) : Nat) : Int) == 0) &&
  decide (sumA (shC z tw L) (partsL (2 ^ n - 1)) ≤ 4611686018427387903) && decide ((frA X L).natAbs ≤ 9223372036854775807) && decide (0 ≤ X) && decide (X ≤ 400 * (L : Int)) && decide (X ≤ 9223372036854775807)
def twB (z : Nat → Int) (n : Nat) : Bool :=
  (List.range (2 ^ n)).all fun tw => twOk z n tw (twL z n tw) (twX z n tw) && !(decide (twX z n tw * (twL z n 0 : Nat) < twX z n 0 * (twL z n tw : Nat))) &&
    (List.range n).all fun k => tw.testBit k || decide (twX z n tw * (twL z n (tw ||| 2 ^ k) : Nat) < twX z n (tw ||| 2 ^ k) * (twL z n tw : Nat))
theorem tw_1 : (List.range 9).all (fun A => twB (twZ (A + 1) 1 1) 1) = true := by decide +kernel
theorem tw_2 : (List.range 9).all (fun A => (List.range 9).all fun B => twB (twZ (A + 1) (B + 1) 1) 2) = true := by decide +kernel
theorem tw_31 : (List.range 9).all (fun B => (List.range 9).all fun C => twB (twZ 1 (B + 1) (C + 1)) 3) = true := by decide +kernel
end Go.Proofs.Ytlmjddlpenmpkaa
