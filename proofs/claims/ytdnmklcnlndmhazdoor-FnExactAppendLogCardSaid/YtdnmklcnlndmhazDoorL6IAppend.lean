/-
  Contract: impl.AppendLog.
-/
import Derived.Test.YtdnmklcnlndmhazDoorL6AppY
import Derived.Test.YtdnmklcnlndmhazDoorL6AppF
import Derived.Test.YtdnmklcnlndmhazDoorL6AppM
namespace Go.Proofs.YtdnmklcnlndmhazDoor.L6
open Go.RowKit L1
set_option linter.unusedVariables false

open Classical in
theorem implAppend_any (a : Option Addr) (L : List Pc) (n cap : Nat) (B : Int) (r : ByteArray) (w : World) (hn : L.length = n) (hm : n ≤ 9223372036854775807) (hs : SlC w a L) (hst : TxC L) (ht : Tab w) (L' : List Pc) (B' : Int) (ok : Bool) (hap : AppIs L B r L' B' ok) :
    Calls Tryd.prog 14 #[.agg #[.slice a n cap, .int .i64 B], .string r] w (RetL w L' B' ok) := by
  by_cases hp : AppPre L B r
  · by_cases hf : AppFits L r
    · obtain ⟨rfl, rfl, rfl⟩ := hap.put hp hf
      exact implAppend_yes a L n cap B' r w hn hm hs hst ht hp hf
    · by_cases h20 : L.length = 20
      · obtain ⟨rfl, rfl, rfl⟩ := hap.full hp hf h20
        exact implAppend_full a L n cap B r w hn hm hs hst ht hp hf h20
      · obtain ⟨rfl, rfl, rfl⟩ := hap.more hp hf h20
        exact implAppend_more a L n cap B' r w hn hm hs hst ht hp hf h20
  · obtain ⟨rfl, rfl, rfl⟩ := hap.no hp
    exact implAppend_no a L n cap B r w hn hm hs hst ht hp
end Go.Proofs.YtdnmklcnlndmhazDoor.L6
