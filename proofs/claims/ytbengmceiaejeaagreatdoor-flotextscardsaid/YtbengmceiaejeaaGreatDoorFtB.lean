/- The library's table of powers of ten, row by row: near enough, and nothing that is asked lies too near a whole number. -/
import Derived.Test.YtbengmceiaejeaaGreatDoorFtA
namespace Go.Proofs.YtbengmceiaejeaaGreatDoor

def l10 (q : Int) : Int := q * 78913 / 262144
def l2 (p : Int) : Int := p * 108853 / 32768
def skw (q : Int) : Int := (q * 631305 - 261663) / 2097152

/-- How far a product is moved to the right, where two binary digits are asked behind the point and nine noughts stand in its factor. -/
def shf (q K : Int) : Int := 8 - q - l2 (-K)
/-- 2^q / 10^K, as a fraction. -/
def numA (q K : Int) : Nat := 5 ^ (-K).toNat * 2 ^ (q - K).toNat
def denM (q K : Int) : Nat := 5 ^ K.toNat * 2 ^ (K - q).toNat

def rowOf (K : Int) : Nat × Nat := Go.Pinned.pow10Rows.getD (348 - K).toNat (0, 0)

def goodRow (q K : Int) (r : Nat × Nat) : Bool :=
  let s := (shf q K).toNat
  let PM := r.1 * 18446744073709551616 - r.2
  1 ≤ shf q K && -348 ≤ K && K ≤ 347 && shf q K ≤ 12 && r.1 < 18446744073709551616 && r.2 < 18446744073709551616 && r.2 < r.1 * 18446744073709551616 &&
  512 * (PM - 1) * denM q K ≤ numA q K * 2 ^ (128 + s) && numA q K * 2 ^ (128 + s) ≤ 512 * PM * denM q K && sepOK (numA q K) (denM q K) (2 ^ (63 + s))

theorem good_all : (List.range 2046).all (fun i => goodRow ((i : Int) - 1074) (l10 ((i : Int) - 1074)) (rowOf (l10 ((i : Int) - 1074)))) = true := by decide +kernel
theorem good_skew : (List.range 2046).all (fun i => goodRow ((i : Int) - 1074) (skw ((i : Int) - 1074)) (rowOf (skw ((i : Int) - 1074)))) = true := by decide +kernel

theorem good_l10 (q : Int) (h1 : -1074 ≤ q) (h2 : q ≤ 971) : goodRow q (l10 q) (rowOf (l10 q)) = true := by
  have := List.all_eq_true.1 good_all (q + 1074).toNat (List.mem_range.2 (by omega))
  rw [show (((q + 1074).toNat : Nat) : Int) - 1074 = q by omega] at this
  exact this
theorem good_skw (q : Int) (h1 : -1074 ≤ q) (h2 : q ≤ 971) : goodRow q (skw q) (rowOf (skw q)) = true := by
  have := List.all_eq_true.1 good_skew (q + 1074).toNat (List.mem_range.2 (by omega))
  rw [show (((q + 1074).toNat : Nat) : Int) - 1074 = q by omega] at this
  exact this
end Go.Proofs.YtbengmceiaejeaaGreatDoor
