/- In a seat without package nat: what Flof asks, in the place of Nate; Len64 of math/bits. -/
import Derived.Test.YtgiekjckfgdfnaaRows
import Derived.Test.YtgiekjckfgdfnaaRefg
import Derived.Shelf.Spec.TrailingZeros
import Derived.Laws.Bits64b
import Derived.Lib.BitFns
import Derived.Lib.Small
import Derived.Lib.Strings
import Derived.Lib.Slices
import Derived.Lib.Walk
import Derived.Deep.QuietTactic
import Derived.BigQuiet
import Derived.OwnWalk
namespace Go.Proofs.Ytgiekjckfgdfnaa
set_option maxRecDepth 100000
open Go.RowKit
theorem or_sum64 (a b k : Nat) (hb : b < 2 ^ k) (h : 2 ^ k * a + b < 18446744073709551616) : bits .or .u64 ((2 ^ k * a : Nat) : Int) (b : Int) = ((2 ^ k * a + b : Nat) : Int) := by
  rw [bits_or_u64_nat _ _ (by omega) (by omega), Nat.two_pow_add_eq_or_of_lt hb]
theorem or_sum64' (a b k : Nat) (hb : b < 2 ^ k) (h : 2 ^ k * a + b < 18446744073709551616) : bits .or .u64 (b : Int) ((2 ^ k * a : Nat) : Int) = ((2 ^ k * a + b : Nat) : Int) := by
  rw [bits_or_u64_nat _ _ (by omega) (by omega), Nat.or_comm, Nat.two_pow_add_eq_or_of_lt hb]
theorem len8tab_at (j : Nat) (h : j < Lib.len8tab.size) : ((Lib.len8tab[j].toNat : Nat) : Int) = (Lib.bitLen j : Int) := by
  have hs := Lib.len8tab_size
  have e := Lib.len8_of (j : Int) (by omega) (by omega)
  have e2 : ((j : Int)).toNat = j := by omega
  rw [Lib.len8, e2, ByteArray.getElem?_lt' _ _ h] at e
  simpa using e
theorem wrap64_small {n : Int} (h1 : 0 ≤ n) (h2 : n ≤ 255) : wrap64 n = n := wrap64_in (by omega) (by omega)
theorem len_close (x i : Int) (s : Nat) (h : i.toNat < Lib.len8tab.size) (hs : s ≤ 56) (e : Lib.bitLen x.toNat = s + Lib.bitLen i.toNat) : wrap64 ((s : Int) + wrap64 ((Lib.len8tab[i.toNat].toNat : Nat) : Int)) = (Lib.bitLen x.toNat : Int) := by
  have h8 := Lib.bitLen_le8 ⟨i.toNat, by have := Lib.len8tab_size; omega⟩
  simp only at h8
  rw [len8tab_at _ h, wrap64_small (n := (Lib.bitLen i.toNat : Int)) (by omega) (by omega), wrap64_small (by omega) (by omega), e]
  omega
theorem len_close0 (x : Int) (h : x.toNat < Lib.len8tab.size) : wrap64 (wrap64 ((Lib.len8tab[x.toNat].toNat : Nat) : Int)) = (Lib.bitLen x.toNat : Int) := by
  have h8 := Lib.bitLen_le8 ⟨x.toNat, by have := Lib.len8tab_size; omega⟩
  simp only at h8
  rw [len8tab_at _ h, wrap64_small (n := (Lib.bitLen x.toNat : Int)) (by omega) (by omega), wrap64_small (by omega) (by omega)]
end Go.Proofs.Ytgiekjckfgdfnaa
