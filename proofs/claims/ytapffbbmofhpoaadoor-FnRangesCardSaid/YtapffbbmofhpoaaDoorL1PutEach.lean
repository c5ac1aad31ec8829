/-
  Contract: impl.putEach: of at most 81 numbers in -1000000000000..1000000000000 their digits one behind the other, as a text, and true; else the empty text and false.
-/
import Derived.Test.YtapffbbmofhpoaaDoorL1Cat
import Derived.Test.YtapffbbmofhpoaaDoorL1PutVarint
import Derived.Test.YtapffbbmofhpoaaDoorL1Builder
namespace Go.Proofs.YtapffbbmofhpoaaDoor.L1
open Go.RowKit
set_option linter.unusedVariables false

/-- Bytes as a builder holds them, and the text that they are. -/
def bsOf (l : List Int) : List UInt8 := l.map fun n => UInt8.ofNat n.toNat
theorem str_bsOf (l : List Int) : strOfNums l = ⟨(bsOf l).toArray⟩ := rfl
theorem strCells_bsOf (l : List Int) : Lib.strCells (strOfNums l) = Lib.byteCells (bsOf l) := rfl
theorem byteCells_append (l m : List UInt8) : Lib.byteCells (l ++ m) = Lib.byteCells l ++ Lib.byteCells m := by simp [Lib.byteCells]

theorem fresh_builder (w : World) : Lib.IsBuilder 123 5 w.heap.size w.heap.size (Lib.byteCells (bsOf (cat []))) (w.alloc (Obj.cells #[Value.pointer none, Value.slice none 0 0] 123)) :=
  .inl ⟨Nat.le_refl _, .slice none 0 0, by show (w.heap.push _)[w.heap.size]? = _; simp, World.ownsRow_nil _ _ _ _, by simp [Value.ownBlock]⟩

set_option maxRecDepth 100000 in
set_option maxHeartbeats 1000000 in
theorem putEach_yes (a : Option Addr) (xs : List Int) (n cap : Nat) (w : World) (hn : xs.length = n) (hs : Sl w a xs) (hn2 : n ≤ 81) (hok : OkL xs) (ht : Tab w) :
    Calls Tryd.prog 84 #[.slice a n cap] w fun e w' => e = .returned (.tuple #[.string (strOfNums (cat xs)), .bool true]) ∧ Below w.heap.size w w' := by
  have HS := hide hs
  have HN := hide hn
  have HK := hide hok
  have HT := hide ht
  clear hs hn hok ht
  go_enter Tryd.func84, Tryd.ntmps84
  go_wp2
  go_loopw [11] (fun i wr => ∃ k : Nat, k ≤ n ∧ i = .int .i64 k ∧ Lib.IsBuilder 123 5 w.heap.size w.heap.size (Lib.byteCells (bsOf (cat (xs.take k)))) wr ∧ Below w.heap.size w wr) (fun i _ => n - (intOf i).toNat)
  case atStart => exact ⟨0, Nat.zero_le _, rfl, fresh_builder w, (Below.refl _ _).alloc (Nat.le_refl _) _⟩
  case round =>
    obtain ⟨k, hk, rfl, hB, hbel⟩ := hrel
    by_cases hlt : k < n
    · have hx := HK.out k (by rw [HN.out]; exact hlt)
      have hpc := putVarint_yes (xs.getD k 0) wr hx.1 hx.2 (HT.out.below hbel)
      have HXX := hide hpc
      obtain ⟨b, off, rfl, hc0⟩ := HS.out k (by rw [HN.out]; exact hlt)
      have hc : wr.cell? ⟨b, off + k, none⟩ = some (.int .i64 (xs.getD k 0)) := by
        rw [hbel.cell (p := ⟨b, off + k, none⟩) (blk_lt hc0)]
        exact hc0
      have hct := cat_take xs k (by rw [HN.out]; exact hlt)
      have hl1 : (cat (xs.take k)).length ≤ 486 := by
        have := cat_len (xs.take k)
        have h2 : (xs.take k).length ≤ k := List.length_take_le _ _
        omega
      have hl2 : (strOfNums (vd (zig (xs.getD k 0)))).size ≤ 6 := by rw [strOfNums_size]; exact vdf_le 5 _
      have hbs : Lib.byteCells (bsOf (cat (xs.take (k + 1)))) = Lib.byteCells (bsOf (cat (xs.take k))) ++ Lib.strCells (strOfNums (vd (zig (xs.getD k 0)))) := by
        rw [hct, strCells_bsOf, ← byteCells_append]
        simp [bsOf]
      have hbl : (Lib.byteCells (bsOf (cat (xs.take k)))).length ≤ 486 := by simp [Lib.byteCells, bsOf]; exact hl1
      clear hpc
      obtain ⟨x, hxe⟩ : ∃ x, x = xs.getD k 0 := ⟨_, rfl⟩
      rw [← hxe] at hc hl2 hbs HXX
      obtain ⟨bs, hbe⟩ : ∃ bs, bs = Lib.byteCells (bsOf (cat (xs.take k))) := ⟨_, rfl⟩
      rw [← hbe] at hbs hbl hB
      have HBS := hide hbs
      have HB := hide hB
      have HBE := hide hbe
      have hltI : (k : Int) < (n : Int) := by omega
      have hBw : w.heap.size ≤ wr.heap.size := hbel.size
      clear hc0 hx hct hxe hbs hB hbe
      go_wp2_with fail
      refine (unhide HXX).mono ?_
      rintro e w1 ⟨rfl, hb1⟩
      go_wp2_with fail
      refine (writeString_any w.heap.size w.heap.size bs _ w1 (isBuilder_below HB.out hb1) (by omega) (Nat.le_trans hBw hb1.size)).mono ?_
      rintro e w2 ⟨rfl, hB2, hb2⟩
      go_wp2
      go_roundw
      case rel => exact ⟨k + 1, by omega, by go_num, .inr (by rw [HBS.out]; exact hB2), (hbel.trans (hb1.mono hBw)).trans hb2⟩
      case measure => simp [intOf]; omega
    · have e : xs.take k = xs := List.take_of_length_le (by rw [HN.out]; omega)
      rw [e] at hB
      have hltI : ¬ (k : Int) < (n : Int) := by omega
      have hBw : w.heap.size ≤ wr.heap.size := hbel.size
      have HB := hide hB
      clear e hB
      go_wp2_with fail
      refine (bString_any w.heap.size w.heap.size (bsOf (cat xs)) wr HB.out hBw).mono ?_
      rintro e w1 ⟨rfl, hb1⟩
      go_wp2
      go_ret2
      exact ⟨rfl, hbel.trans hb1⟩

set_option maxRecDepth 100000 in
set_option maxHeartbeats 1000000 in
theorem putEach_no (a : Option Addr) (xs : List Int) (n cap : Nat) (w : World) (hn : xs.length = n) (hs : Sl w a xs) (hn2 : n ≤ 81) (hno : ¬ OkL xs) (ht : Tab w) :
    Calls Tryd.prog 84 #[.slice a n cap] w fun e w' => e = .returned (.tuple #[.string ⟨#[]⟩, .bool false]) ∧ Below w.heap.size w w' := by
  have HS := hide hs
  have HN := hide hn
  have HK := hide hno
  have HT := hide ht
  clear hs hn hno ht
  go_enter Tryd.func84, Tryd.ntmps84
  go_wp2
  go_loopw [11] (fun i wr => ∃ k : Nat, k ≤ n ∧ i = .int .i64 k ∧ Hid (∀ j, j < k → -1000000000000 ≤ xs.getD j 0 ∧ xs.getD j 0 ≤ 1000000000000) ∧ Lib.IsBuilder 123 5 w.heap.size w.heap.size (Lib.byteCells (bsOf (cat (xs.take k)))) wr ∧ Below w.heap.size w wr) (fun i _ => n - (intOf i).toNat)
  case atStart => exact ⟨0, Nat.zero_le _, rfl, fun j hj => absurd hj (Nat.not_lt_zero _), fresh_builder w, (Below.refl _ _).alloc (Nat.le_refl _) _⟩
  case round =>
    obtain ⟨k, hk, rfl, HJ, hB, hbel⟩ := hrel
    by_cases hlt : k < n
    · have hpc := putVarint_yes (xs.getD k 0) wr
      have hnc := putVarint_no (xs.getD k 0) wr
      have hnext : -1000000000000 ≤ xs.getD k 0 → xs.getD k 0 ≤ 1000000000000 → ∀ j, j < k + 1 → -1000000000000 ≤ xs.getD j 0 ∧ xs.getD j 0 ≤ 1000000000000 := fun h1 h2 j hj => by
        by_cases e : j = k
        · subst e; exact ⟨h1, h2⟩
        · exact HJ.out j (by omega)
      have HXX := hide (And.intro hpc (And.intro hnc hnext))
      have htr := HT.out.below hbel
      obtain ⟨b, off, rfl, hc0⟩ := HS.out k (by rw [HN.out]; exact hlt)
      have hc : wr.cell? ⟨b, off + k, none⟩ = some (.int .i64 (xs.getD k 0)) := by
        rw [hbel.cell (p := ⟨b, off + k, none⟩) (blk_lt hc0)]
        exact hc0
      have hct := cat_take xs k (by rw [HN.out]; exact hlt)
      have hl1 : (cat (xs.take k)).length ≤ 486 := by
        have := cat_len (xs.take k)
        have h2 : (xs.take k).length ≤ k := List.length_take_le _ _
        omega
      have hl2 : (strOfNums (vd (zig (xs.getD k 0)))).size ≤ 6 := by rw [strOfNums_size]; exact vdf_le 5 _
      have hbs : Lib.byteCells (bsOf (cat (xs.take (k + 1)))) = Lib.byteCells (bsOf (cat (xs.take k))) ++ Lib.strCells (strOfNums (vd (zig (xs.getD k 0)))) := by
        rw [hct, strCells_bsOf, ← byteCells_append]
        simp [bsOf]
      have hbl : (Lib.byteCells (bsOf (cat (xs.take k)))).length ≤ 486 := by simp [Lib.byteCells, bsOf]; exact hl1
      clear hpc hnc hnext
      obtain ⟨x, hxe⟩ : ∃ x, x = xs.getD k 0 := ⟨_, rfl⟩
      rw [← hxe] at hc hl2 hbs HXX
      obtain ⟨bs, hbe⟩ : ∃ bs, bs = Lib.byteCells (bsOf (cat (xs.take k))) := ⟨_, rfl⟩
      rw [← hbe] at hbs hbl hB
      have HBS := hide hbs
      have HB := hide hB
      have HBE := hide hbe
      have hltI : (k : Int) < (n : Int) := by omega
      have hBw : w.heap.size ≤ wr.heap.size := hbel.size
      have HTR := hide htr
      clear hc0 hct hxe hbs hB hbe htr
      by_cases hin : -1000000000000 ≤ x ∧ x ≤ 1000000000000
      · go_wp2_with fail
        refine (HXX.out.1 hin.1 hin.2 HTR.out).mono ?_
        rintro e w1 ⟨rfl, hb1⟩
        go_wp2_with fail
        refine (writeString_any w.heap.size w.heap.size bs _ w1 (isBuilder_below HB.out hb1) (by omega) (Nat.le_trans hBw hb1.size)).mono ?_
        rintro e w2 ⟨rfl, hB2, hb2⟩
        go_wp2
        go_roundw
        case rel => exact ⟨k + 1, by omega, by go_num, HXX.out.2.2 hin.1 hin.2, .inr (by rw [HBS.out]; exact hB2), (hbel.trans (hb1.mono hBw)).trans hb2⟩
        case measure => simp [intOf]; omega
      · go_wp2_with fail
        refine (HXX.out.2.1 hin).mono ?_
        rintro e w1 ⟨rfl, rfl⟩
        go_wp2
        go_ret2
        exact ⟨rfl, hbel⟩
    · exfalso
      exact HK.out (fun j hj => HJ.out j (by rw [HN.out] at hj; omega))
end Go.Proofs.YtapffbbmofhpoaaDoor.L1
