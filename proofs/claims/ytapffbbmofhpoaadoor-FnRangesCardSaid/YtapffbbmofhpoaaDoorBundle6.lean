/-
  Contract: impl.PutVarint makes the digits to 128 of a number's ZigZag, as a text, and true; outside -1000000000000..1000000000000 the empty text and false; memory that was there stays as it was.
  The library's contracts for (*strings.Builder).WriteString and String, laid at this program's numbers: its bodies are the ones that the contracts were proved of.
  Contract: impl.putEach: of at most 81 numbers in -1000000000000..1000000000000 their digits one behind the other, as a text, and true; else the empty text and false.
  Contract: impl.EncodeChunk: of good samples the text of their chunk, and true; of others the empty text and false.
  What EncodeChunk answers of samples that may not be there.
  Contract: spec.GetAll: of at most 600 bytes the numbers with this text, at most 60, in new memory, and true; else no list and false.
  Contract: spec.l1All at the bounds -1000000000000 and 1000000000000.
  Contracts: spec.l1PutAll, spec.PutAll: of at most 60 numbers in -1000000000000..1000000000000 their digits one behind the other, as a text, and true; else the empty text and false.
-/
import Derived.Test.YtapffbbmofhpoaaDoorBundle2
import Derived.Test.YtapffbbmofhpoaaDoorBundle5
import Derived.Shelf.Strings.Builder1
import Derived.Test.YtapffbbmofhpoaaDoorChecked
import Derived.Test.YtapffbbmofhpoaaDoorBundle1
import Derived.Deep.RegionHeld3
namespace Go.Proofs.YtapffbbmofhpoaaDoor.L1
open Go.RowKit
set_option linter.unusedVariables false

set_option maxRecDepth 100000 in
set_option maxHeartbeats 400000 in
theorem zigZag_yes (n : Int) (w : World) (h1 : -1000000000000 ≤ n) (h2 : n ≤ 1000000000000) :
    Calls Tryd.prog 11 #[.int .i64 n] w fun e w' => e = .returned (.tuple #[.int .i64 (zig n), .bool true]) ∧ w = w' := by
  unfold zig
  by_cases h : n < 0
  · rw [if_pos h]
    go_enter Tryd.func11, Tryd.ntmps11
    go_wp2
    go_ret2
    exact ⟨rfl, rfl⟩
  · rw [if_neg h]
    go_enter Tryd.func11, Tryd.ntmps11
    go_wp2
    go_ret2
    exact ⟨rfl, rfl⟩
set_option maxRecDepth 100000 in
set_option maxHeartbeats 400000 in
theorem zigZag_no (n : Int) (w : World) (h : ¬ (-1000000000000 ≤ n ∧ n ≤ 1000000000000)) :
    Calls Tryd.prog 11 #[.int .i64 n] w fun e w' => e = .returned (.tuple #[.int .i64 0, .bool false]) ∧ w = w' := by
  by_cases h1 : -1000000000000 ≤ n
  · have h2 : ¬ n ≤ 1000000000000 := fun h2 => h ⟨h1, h2⟩
    clear h
    go_enter Tryd.func11, Tryd.ntmps11
    go_wp2
    go_ret2
    exact ⟨rfl, rfl⟩
  · clear h
    go_enter Tryd.func11, Tryd.ntmps11
    go_wp2
    go_ret2
    exact ⟨rfl, rfl⟩

set_option maxRecDepth 100000 in
set_option maxHeartbeats 400000 in
theorem putVarint_no (n : Int) (w : World) (h : ¬ (-1000000000000 ≤ n ∧ n ≤ 1000000000000)) :
    Calls Tryd.prog 9 #[.int .i64 n] w fun e w' => e = .returned (.tuple #[.string ⟨#[]⟩, .bool false]) ∧ w = w' := by
  have zc := fun w => zigZag_no n w h
  have ZC := hide zc
  clear zc h
  go_enter Tryd.func9, Tryd.ntmps9
  go_wp2_with (go_at_call 11; refine (unhide ZC _).mono ?_; rintro e w' ⟨rfl, rfl⟩)
  go_ret2
  exact ⟨rfl, rfl⟩

theorem vd_get (z : Int) (k : Nat) (h0 : 0 ≤ z) (h1 : z ≤ 2000000000000) (hk : k < (vd z).length) :
    (vd z).getD k 0 = z / wor k % 128 + (if k + 1 < (vd z).length then 128 else 0) :=
  vdf_get 5 z k h0 (by simp [wor]; omega) hk

theorem made_row (n : Nat) : (madeCells (Value.int .u8 0).cells (n * 1)).toList = (List.replicate n (0 : Int)).map (Value.int .u8) := by
  rw [Nat.mul_one]
  show (madeCells #[Value.int .u8 0] n).toList = _
  rw [toList_madeCells_one]
  simp

/-- One round: the next digit is laid at its place. -/
theorem put_round {w wr : World} {Z d : Int} {m k : Nat} {xs : List Int} (hlt : k < m) (hl : xs.length = m) (hd : (vd Z).getD k 0 = d) (HX : ∀ j, j < k → xs.getD j 0 = (vd Z).getD j 0)
    (hown : wr.ownsRow w.heap.size 5 1 (.slice (some ⟨w.heap.size, 0, none⟩) m m) m (xs.map (Value.int .u8))) (hb : Below w.heap.size w wr) (HT : Tab wr) (ht : 0 < w.heap.size) :
    ∃ (k' : Nat) (xs' : List Int), k' ≤ m ∧ Value.int .i64 ((k : Int) + 1) = .int .i64 k' ∧ xs'.length = m ∧ Hid (∀ j, j < k' → xs'.getD j 0 = (vd Z).getD j 0) ∧
      (wr.setCell ⟨w.heap.size, k, none⟩ (.int .u8 d)).ownsRow w.heap.size 5 1 (.slice (some ⟨w.heap.size, 0, none⟩) m m) m (xs'.map (Value.int .u8)) ∧ Below w.heap.size w (wr.setCell ⟨w.heap.size, k, none⟩ (.int .u8 d)) ∧ Hid (Tab (wr.setCell ⟨w.heap.size, k, none⟩ (.int .u8 d))) := by
  have hst := hown.stored k (.int .u8 d)
  have hb2 := hb.setCell (p := ⟨w.heap.size, k, none⟩) (Nat.le_refl _) (.int .u8 d)
  refine ⟨k + 1, xs.set k d, by omega, by simp, by simpa using hl, ?_, by rw [List.map_set]; exact hst.1, hb2, ?_⟩
  · intro j hj
    by_cases e : j = k
    · subst e
      rw [hd]
      simp [List.getD, hl, hlt]
    · rw [← HX j (by omega)]
      simp [List.getD, Ne.symm e]
  · intro j hj
    have := HT j hj
    rw [← this]
    exact World.cell?_of_block (Below.heap_setCell _ _ _ _ (by simp; omega))

set_option maxRecDepth 100000 in
set_option maxHeartbeats 1000000 in
theorem putVarint_yes (n : Int) (w : World) (h1 : -1000000000000 ≤ n) (h2 : n ≤ 1000000000000) (ht : Tab w) :
    Calls Tryd.prog 9 #[.int .i64 n] w fun e w' => e = .returned (.tuple #[.string (strOfNums (vd (zig n))), .bool true]) ∧ Below w.heap.size w w' := by
  have z0 := zig_lo n
  have z1 := zig_hi n h1 h2
  obtain ⟨i0, hi, hz0, hz1, hz2⟩ := info_parts info_u8
  have hm6 : (vd (zig n)).length ≤ 6 := vdf_le 5 (zig n)
  have hm1 : 1 ≤ (vd (zig n)).length := vdf_pos 5 (zig n)
  obtain ⟨w1, hmk, hown1, hg1⟩ := run_make_full (P := Tryd.prog) w w.heap.size 22 5 i0 (.int .u8 0) 1 Tryd.underlying22 hi hz0 hz1 .i64 .i64 (vd (zig n)).length (by rw [hz2]; omega) (by unfold maxLen; omega) (Nat.le_refl _)
  rw [made_row] at hown1
  have hb1 : Below w.heap.size w w1 := (Below.refl _ _).grown hg1 (Nat.le_refl _) (fun k hk => by cases hk)
  have HT1 := hide (ht.below hb1)
  have hgl : 0 < w.heap.size := block_lt (ht 0 (by omega))
  have HO := hide hown1
  clear hown1 hg1
  obtain ⟨Z, hZ⟩ : ∃ Z, Z = zig n := ⟨_, rfl⟩
  have zc := fun w => zigZag_yes n w h1 h2
  have dc := digitsOf_any (zig n) w z0 z1 ht
  rw [← hZ] at z0 z1 zc dc hm6 hm1 hmk HO ⊢
  have HZ := hide hZ
  obtain ⟨m, hm⟩ : ∃ m, m = (vd Z).length := ⟨_, rfl⟩
  rw [← hm] at hm6 hm1 hmk HO dc
  have HM := hide hm
  have ZC := hide zc
  have DC := hide dc
  clear hZ hm h1 h2 ht zc dc
  go_enter Tryd.func9, Tryd.ntmps9
  go_wp2_with (first | (go_at_call 11; refine (unhide ZC _).mono ?_; rintro e w' ⟨rfl, rfl⟩) | (go_at_call 74; refine (unhide DC).mono ?_; rintro e w' ⟨rfl, rfl⟩))
  go_loopw [25] (fun i wr => ∃ (k : Nat) (xs : List Int), k ≤ m ∧ i = .int .i64 k ∧ xs.length = m ∧ Hid (∀ j, j < k → xs.getD j 0 = (vd Z).getD j 0) ∧
      wr.ownsRow w.heap.size 5 1 (.slice (some ⟨w.heap.size, 0, none⟩) m m) m (xs.map (Value.int .u8)) ∧ Below w.heap.size w wr ∧ Hid (Tab wr)) (fun i _ => m - (intOf i).toNat)
  case atStart => exact ⟨0, List.replicate m 0, Nat.zero_le _, rfl, by simp, fun j hj => absurd hj (Nat.not_lt_zero _), HO, hb1, HT1⟩
  case round =>
    obtain ⟨k, xs, hk, rfl, hxl, HX, hown, hbel, HT⟩ := hrel
    have HL := hide hxl
    clear hxl
    by_cases hlt : k < m
    · have hc := unhide HT k (by omega)
      have hw1 := wor_pos k
      have hg := vd_get Z k z0 z1 (by rw [← HM.out]; exact hlt)
      rw [← HM.out] at hg
      have hcl := hown.cellAt k (by omega)
      have hfr := hown.frozenAt k
      have hst := hown.stored k (.int .u8 ((vd Z).getD k 0))
      have hltI : (k : Int) < (m : Int) := by omega
      have hqn : 0 ≤ Z / wor k := Int.ediv_nonneg z0 (by omega)
      have hqm : Z / wor k ≤ 2000000000000 := Int.le_trans (Int.ediv_le_self _ z0) z1
      have hq : 0 ≤ Z / wor k % 128 ∧ Z / wor k % 128 < 128 := ⟨by omega, by omega⟩
      obtain ⟨hq0, hq1⟩ := hq
      have HG := hide hg
      have HS := hide hst
      have hcl2 : ∃ v, wr.cell? ⟨w.heap.size, k, none⟩ = some v := ⟨_, hcl.trans (List.getElem?_eq_getElem (by have := HL.out; simp; omega))⟩
      obtain ⟨v, hv⟩ := hcl2
      clear hcl hg hst
      by_cases hl : k + 1 < m
      · have hlI : (k : Int) < (m : Int) - 1 := by omega
        go_wp2
        go_roundw
        case rel => exact put_round hlt HL.out (by rw [HG.out]; rw [if_pos hl]) HX.out hown hbel HT.out hgl
        case measure => simp [intOf]; omega
      · have hlI : ¬ (k : Int) < (m : Int) - 1 := by omega
        go_wp2
        go_roundw
        case rel => exact put_round hlt HL.out (by rw [HG.out]; rw [if_neg hl]; simp) HX.out hown hbel HT.out hgl
        case measure => simp [intOf]; omega
    · obtain rfl : k = m := by omega
      have hxs : xs = vd Z := by
        apply List.ext_getElem?
        intro j
        by_cases hj : j < k
        · have h := HX.out j hj
          have hl1 := HL.out
          have hl2 := HM.out
          simp only [List.getD, List.getElem?_eq_getElem (show j < xs.length by omega), List.getElem?_eq_getElem (show j < (vd Z).length by omega), Option.getD_some] at h
          rw [List.getElem?_eq_getElem (show j < xs.length by omega), List.getElem?_eq_getElem (show j < (vd Z).length by omega), h]
        · have hl1 := HL.out
          have hl2 := HM.out
          rw [List.getElem?_eq_none (by omega), List.getElem?_eq_none (by omega)]
      have hcv := conv_own hown (by omega)
      rw [hxs] at hcv
      clear hown hxs
      go_wp2
      go_ret2
      exact ⟨rfl, hbel⟩
end Go.Proofs.YtapffbbmofhpoaaDoor.L1

namespace Go.Proofs.YtapffbbmofhpoaaDoor.L1
open Go.Shelf Go.RowKit

def wsRen : Ren := ⟨fun | 166 => 127 | 240 => 149 | 276 => 170 | n => n,
  fun | 70 => 121 | 3 => 3 | 0 => 0 | 4 => 4 | 9 => 9 | 20 => 20 | 72 => 123 | 37 => 22 | 164 => 159 | 5 => 5 | 75 => 125 | 80 => 80 | n => n, fun | n => n⟩
theorem wsLays : Lays.n166 Tryd.prog wsRen := {
  mixed := by kernel_rfl
  f166 := Tryd.func127.trans (congrArg some (by kernel_rfl))
  f240 := Tryd.func149.trans (congrArg some (by kernel_rfl))
  f276 := Tryd.func170.trans (congrArg some (by kernel_rfl))
  t0 := Tryd.underlying0
  a0 := Tryd.isAgg0
  z0 := Tryd.sizeOf0
  v0 := Tryd.zeroValue0
  t3 := Tryd.underlying3
  a3 := Tryd.isAgg3
  z3 := Tryd.sizeOf3
  v3 := Tryd.zeroValue3
  t4 := Tryd.underlying4
  a4 := Tryd.isAgg4
  z4 := Tryd.sizeOf4
  v4 := Tryd.zeroValue4
  t9 := Tryd.underlying9
  a9 := Tryd.isAgg9
  z9 := Tryd.sizeOf9
  v9 := Tryd.zeroValue9
  t20 := Tryd.underlying20
  a20 := Tryd.isAgg20
  z20 := Tryd.sizeOf20
  v20 := Tryd.zeroValue20
  t37 := Tryd.underlying22
  a37 := Tryd.isAgg22
  z37 := Tryd.sizeOf22
  v37 := Tryd.zeroValue22
  t70 := Tryd.underlying121
  a70 := Tryd.isAgg121
  z70 := Tryd.sizeOf121
  v70 := Tryd.zeroValue121
  t72 := Tryd.underlying123
  a72 := Tryd.isAgg123
  z72 := Tryd.sizeOf123
  v72 := Tryd.zeroValue123
  t75 := Tryd.underlying125
  a75 := Tryd.isAgg125
  z75 := Tryd.sizeOf125
  v75 := Tryd.zeroValue125
  t164 := Tryd.underlying159
  a164 := Tryd.isAgg159
  z164 := Tryd.sizeOf159
  v164 := Tryd.zeroValue159 }
theorem wsExtra : Builder.Extra Tryd.prog wsRen := {
  sizeBuilder := by kernel_rfl
  liesBuilder := by kernel_rfl
  t5 := Tryd.underlying5
  a5 := Tryd.isAgg5
  z5 := Tryd.sizeOf5
  v5 := Tryd.zeroValue5
  infoByte := by kernel_rfl
  cellsByte := by kernel_rfl
  sizeByte := by kernel_rfl
  neB5 := by decide }
theorem writeString_any (B b : Nat) (bs : List Value) (s : ByteArray) (w : World) (h : Lib.IsBuilder 123 5 B b bs w) (hlen : bs.length + s.size ≤ 140737488355328) (hBw : B ≤ w.heap.size) :
    Calls Tryd.prog 127 #[.pointer (some ⟨b, 0, none⟩), .string s] w fun e w' => e = .returned (.tuple #[.int .i64 s.size, .nilIface]) ∧ (Lib.BuilderAt 123 5 B b (.pointer (some ⟨b, 0, none⟩)) (bs ++ Lib.strCells s) w' ∧ Below B w w') :=
  Any.Builder_WriteString wsLays wsExtra B b bs s w h hlen hBw

def stRen : Ren := ⟨fun | 169 => 128 | n => n,
  fun | 70 => 121 | 9 => 9 | 0 => 0 | 72 => 123 | 37 => 22 | 127 => 142 | 3 => 3 | 5 => 5 | n => n, fun | n => n⟩
theorem stLays : Lays.n169 Tryd.prog stRen := {
  mixed := by kernel_rfl
  f169 := Tryd.func128.trans (congrArg some (by kernel_rfl))
  t0 := Tryd.underlying0
  a0 := Tryd.isAgg0
  z0 := Tryd.sizeOf0
  v0 := Tryd.zeroValue0
  t3 := Tryd.underlying3
  a3 := Tryd.isAgg3
  z3 := Tryd.sizeOf3
  v3 := Tryd.zeroValue3
  t9 := Tryd.underlying9
  a9 := Tryd.isAgg9
  z9 := Tryd.sizeOf9
  v9 := Tryd.zeroValue9
  t37 := Tryd.underlying22
  a37 := Tryd.isAgg22
  z37 := Tryd.sizeOf22
  v37 := Tryd.zeroValue22
  t70 := Tryd.underlying121
  a70 := Tryd.isAgg121
  z70 := Tryd.sizeOf121
  v70 := Tryd.zeroValue121
  t72 := Tryd.underlying123
  a72 := Tryd.isAgg123
  z72 := Tryd.sizeOf123
  v72 := Tryd.zeroValue123
  t127 := Tryd.underlying142
  a127 := Tryd.isAgg142
  z127 := Tryd.sizeOf142
  v127 := Tryd.zeroValue142 }
theorem stExtra : Builder.Extra Tryd.prog stRen := {
  sizeBuilder := by kernel_rfl
  liesBuilder := by kernel_rfl
  t5 := Tryd.underlying5
  a5 := Tryd.isAgg5
  z5 := Tryd.sizeOf5
  v5 := Tryd.zeroValue5
  infoByte := by kernel_rfl
  cellsByte := by kernel_rfl
  sizeByte := by kernel_rfl
  neB5 := by decide }
theorem bString_any (B b : Nat) (l : List UInt8) (w : World) (h : Lib.IsBuilder 123 5 B b (Lib.byteCells l) w) (hBw : B ≤ w.heap.size) :
    Calls Tryd.prog 128 #[.pointer (some ⟨b, 0, none⟩)] w fun e w' => e = .returned (.string ⟨l.toArray⟩) ∧ Below B w w' :=
  Any.Builder_String_any stLays stExtra B b l w h hBw

/-- A builder stays one while new memory is laid. -/
theorem isBuilder_below {T e : TypeId} {B b : Nat} {bs : List Value} {w w' : World} (h : Lib.IsBuilder T e B b bs w) (hb : Below w.heap.size w w') : Lib.IsBuilder T e B b bs w' := by
  have one : ∀ {p : Value}, Lib.BuilderAt T e B b p bs w → Lib.BuilderAt T e B b p bs w' := fun {p} h => by
    have hlt := h.lt
    obtain ⟨hB, v, hbk, hown, hne⟩ := h
    refine ⟨hB, v, by rw [hb.block b hlt]; exact hbk, ?_, hne⟩
    refine ⟨hown.1, ?_⟩
    rcases hown.2 with h0 | ⟨g, cap, cur, rfl, hbg, hg, r⟩
    · exact .inl h0
    · exact .inr ⟨g, cap, cur, rfl, hbg, by rw [hb.block g (Array.getElem?_eq_some_iff.1 hg).1]; exact hg, r⟩
  rcases h with h | h
  · exact .inl (one h)
  · exact .inr (one h)
end Go.Proofs.YtapffbbmofhpoaaDoor.L1

namespace Go.Proofs.YtapffbbmofhpoaaDoor.L1
open Go.RowKit
set_option linter.unusedVariables false

/-- Bytes as a builder holds them, and the text that they are. -/
def bsOf (l : List Int) : List UInt8 := l.map fun n => UInt8.ofNat n.toNat
theorem str_bsOf (l : List Int) : strOfNums l = ⟨(bsOf l).toArray⟩ := rfl
theorem strCells_bsOf (l : List Int) : Lib.strCells (strOfNums l) = Lib.byteCells (bsOf l) := rfl
theorem byteCells_append (l m : List UInt8) : Lib.byteCells (l ++ m) = Lib.byteCells l ++ Lib.byteCells m := by simp [Lib.byteCells]

theorem fresh_builder (w : World) : Lib.IsBuilder 123 5 w.heap.size w.heap.size (Lib.byteCells (bsOf (cat []))) (w.alloc (Obj.cells #[Value.pointer none, Value.slice none 0 0] 123)) :=
  .inl ⟨Nat.le_refl _, .slice none 0 0, by show (w.heap.push _)[w.heap.size]? = _; simp, World.ownsRow_nil _ _ _ _, by simp [Value.ownBlock]⟩

set_option maxRecDepth 100000 in
set_option maxHeartbeats 1000000 in
theorem putEach_yes (a : Option Addr) (xs : List Int) (n cap : Nat) (w : World) (hn : xs.length = n) (hs : Sl w a xs) (hn2 : n ≤ 81) (hok : OkL xs) (ht : Tab w) :
    Calls Tryd.prog 84 #[.slice a n cap] w fun e w' => e = .returned (.tuple #[.string (strOfNums (cat xs)), .bool true]) ∧ Below w.heap.size w w' := by
  have HS := hide hs
  have HN := hide hn
  have HK := hide hok
  have HT := hide ht
  clear hs hn hok ht
  go_enter Tryd.func84, Tryd.ntmps84
  go_wp2
  go_loopw [11] (fun i wr => ∃ k : Nat, k ≤ n ∧ i = .int .i64 k ∧ Lib.IsBuilder 123 5 w.heap.size w.heap.size (Lib.byteCells (bsOf (cat (xs.take k)))) wr ∧ Below w.heap.size w wr) (fun i _ => n - (intOf i).toNat)
  case atStart => exact ⟨0, Nat.zero_le _, rfl, fresh_builder w, (Below.refl _ _).alloc (Nat.le_refl _) _⟩
  case round =>
    obtain ⟨k, hk, rfl, hB, hbel⟩ := hrel
    by_cases hlt : k < n
    · have hx := HK.out k (by rw [HN.out]; exact hlt)
      have hpc := putVarint_yes (xs.getD k 0) wr hx.1 hx.2 (HT.out.below hbel)
      have HXX := hide hpc
      obtain ⟨b, off, rfl, hc0⟩ := HS.out k (by rw [HN.out]; exact hlt)
      have hc : wr.cell? ⟨b, off + k, none⟩ = some (.int .i64 (xs.getD k 0)) := by
        rw [hbel.cell (p := ⟨b, off + k, none⟩) (blk_lt hc0)]
        exact hc0
      have hct := cat_take xs k (by rw [HN.out]; exact hlt)
      have hl1 : (cat (xs.take k)).length ≤ 486 := by
        have := cat_len (xs.take k)
        have h2 : (xs.take k).length ≤ k := List.length_take_le _ _
        omega
      have hl2 : (strOfNums (vd (zig (xs.getD k 0)))).size ≤ 6 := by rw [strOfNums_size]; exact vdf_le 5 _
      have hbs : Lib.byteCells (bsOf (cat (xs.take (k + 1)))) = Lib.byteCells (bsOf (cat (xs.take k))) ++ Lib.strCells (strOfNums (vd (zig (xs.getD k 0)))) := by
        rw [hct, strCells_bsOf, ← byteCells_append]
        simp [bsOf]
      have hbl : (Lib.byteCells (bsOf (cat (xs.take k)))).length ≤ 486 := by simp [Lib.byteCells, bsOf]; exact hl1
      clear hpc
      obtain ⟨x, hxe⟩ : ∃ x, x = xs.getD k 0 := ⟨_, rfl⟩
      rw [← hxe] at hc hl2 hbs HXX
      obtain ⟨bs, hbe⟩ : ∃ bs, bs = Lib.byteCells (bsOf (cat (xs.take k))) := ⟨_, rfl⟩
      rw [← hbe] at hbs hbl hB
      have HBS := hide hbs
      have HB := hide hB
      have HBE := hide hbe
      have hltI : (k : Int) < (n : Int) := by omega
      have hBw : w.heap.size ≤ wr.heap.size := hbel.size
      clear hc0 hx hct hxe hbs hB hbe
      go_wp2_with fail
      refine (unhide HXX).mono ?_
      rintro e w1 ⟨rfl, hb1⟩
      go_wp2_with fail
      refine (writeString_any w.heap.size w.heap.size bs _ w1 (isBuilder_below HB.out hb1) (by omega) (Nat.le_trans hBw hb1.size)).mono ?_
      rintro e w2 ⟨rfl, hB2, hb2⟩
      go_wp2
      go_roundw
      case rel => exact ⟨k + 1, by omega, by go_num, .inr (by rw [HBS.out]; exact hB2), (hbel.trans (hb1.mono hBw)).trans hb2⟩
      case measure => simp [intOf]; omega
    · have e : xs.take k = xs := List.take_of_length_le (by rw [HN.out]; omega)
      rw [e] at hB
      have hltI : ¬ (k : Int) < (n : Int) := by omega
      have hBw : w.heap.size ≤ wr.heap.size := hbel.size
      have HB := hide hB
      clear e hB
      go_wp2_with fail
      refine (bString_any w.heap.size w.heap.size (bsOf (cat xs)) wr HB.out hBw).mono ?_
      rintro e w1 ⟨rfl, hb1⟩
      go_wp2
      go_ret2
      exact ⟨rfl, hbel.trans hb1⟩

set_option maxRecDepth 100000 in
set_option maxHeartbeats 1000000 in
theorem putEach_no (a : Option Addr) (xs : List Int) (n cap : Nat) (w : World) (hn : xs.length = n) (hs : Sl w a xs) (hn2 : n ≤ 81) (hno : ¬ OkL xs) (ht : Tab w) :
    Calls Tryd.prog 84 #[.slice a n cap] w fun e w' => e = .returned (.tuple #[.string ⟨#[]⟩, .bool false]) ∧ Below w.heap.size w w' := by
  have HS := hide hs
  have HN := hide hn
  have HK := hide hno
  have HT := hide ht
  clear hs hn hno ht
  go_enter Tryd.func84, Tryd.ntmps84
  go_wp2
  go_loopw [11] (fun i wr => ∃ k : Nat, k ≤ n ∧ i = .int .i64 k ∧ Hid (∀ j, j < k → -1000000000000 ≤ xs.getD j 0 ∧ xs.getD j 0 ≤ 1000000000000) ∧ Lib.IsBuilder 123 5 w.heap.size w.heap.size (Lib.byteCells (bsOf (cat (xs.take k)))) wr ∧ Below w.heap.size w wr) (fun i _ => n - (intOf i).toNat)
  case atStart => exact ⟨0, Nat.zero_le _, rfl, fun j hj => absurd hj (Nat.not_lt_zero _), fresh_builder w, (Below.refl _ _).alloc (Nat.le_refl _) _⟩
  case round =>
    obtain ⟨k, hk, rfl, HJ, hB, hbel⟩ := hrel
    by_cases hlt : k < n
    · have hpc := putVarint_yes (xs.getD k 0) wr
      have hnc := putVarint_no (xs.getD k 0) wr
      have hnext : -1000000000000 ≤ xs.getD k 0 → xs.getD k 0 ≤ 1000000000000 → ∀ j, j < k + 1 → -1000000000000 ≤ xs.getD j 0 ∧ xs.getD j 0 ≤ 1000000000000 := fun h1 h2 j hj => by
        by_cases e : j = k
        · subst e; exact ⟨h1, h2⟩
        · exact HJ.out j (by omega)
      have HXX := hide (And.intro hpc (And.intro hnc hnext))
      have htr := HT.out.below hbel
      obtain ⟨b, off, rfl, hc0⟩ := HS.out k (by rw [HN.out]; exact hlt)
      have hc : wr.cell? ⟨b, off + k, none⟩ = some (.int .i64 (xs.getD k 0)) := by
        rw [hbel.cell (p := ⟨b, off + k, none⟩) (blk_lt hc0)]
        exact hc0
      have hct := cat_take xs k (by rw [HN.out]; exact hlt)
      have hl1 : (cat (xs.take k)).length ≤ 486 := by
        have := cat_len (xs.take k)
        have h2 : (xs.take k).length ≤ k := List.length_take_le _ _
        omega
      have hl2 : (strOfNums (vd (zig (xs.getD k 0)))).size ≤ 6 := by rw [strOfNums_size]; exact vdf_le 5 _
      have hbs : Lib.byteCells (bsOf (cat (xs.take (k + 1)))) = Lib.byteCells (bsOf (cat (xs.take k))) ++ Lib.strCells (strOfNums (vd (zig (xs.getD k 0)))) := by
        rw [hct, strCells_bsOf, ← byteCells_append]
        simp [bsOf]
      have hbl : (Lib.byteCells (bsOf (cat (xs.take k)))).length ≤ 486 := by simp [Lib.byteCells, bsOf]; exact hl1
      clear hpc hnc hnext
      obtain ⟨x, hxe⟩ : ∃ x, x = xs.getD k 0 := ⟨_, rfl⟩
      rw [← hxe] at hc hl2 hbs HXX
      obtain ⟨bs, hbe⟩ : ∃ bs, bs = Lib.byteCells (bsOf (cat (xs.take k))) := ⟨_, rfl⟩
      rw [← hbe] at hbs hbl hB
      have HBS := hide hbs
      have HB := hide hB
      have HBE := hide hbe
      have hltI : (k : Int) < (n : Int) := by omega
      have hBw : w.heap.size ≤ wr.heap.size := hbel.size
      have HTR := hide htr
      clear hc0 hct hxe hbs hB hbe htr
      by_cases hin : -1000000000000 ≤ x ∧ x ≤ 1000000000000
      · go_wp2_with fail
        refine (HXX.out.1 hin.1 hin.2 HTR.out).mono ?_
        rintro e w1 ⟨rfl, hb1⟩
        go_wp2_with fail
        refine (writeString_any w.heap.size w.heap.size bs _ w1 (isBuilder_below HB.out hb1) (by omega) (Nat.le_trans hBw hb1.size)).mono ?_
        rintro e w2 ⟨rfl, hB2, hb2⟩
        go_wp2
        go_roundw
        case rel => exact ⟨k + 1, by omega, by go_num, HXX.out.2.2 hin.1 hin.2, .inr (by rw [HBS.out]; exact hB2), (hbel.trans (hb1.mono hBw)).trans hb2⟩
        case measure => simp [intOf]; omega
      · go_wp2_with fail
        refine (HXX.out.2.1 hin).mono ?_
        rintro e w1 ⟨rfl, rfl⟩
        go_wp2
        go_ret2
        exact ⟨rfl, hbel⟩
    · exfalso
      exact HK.out (fun j hj => HJ.out j (by rw [HN.out] at hj; omega))
end Go.Proofs.YtapffbbmofhpoaaDoor.L1

namespace Go.Proofs.YtapffbbmofhpoaaDoor.L1
open Go.RowKit
set_option linter.unusedVariables false

set_option maxRecDepth 100000 in
set_option maxHeartbeats 400000 in
theorem encodeChunk_yes (a : Option Addr) (l : List (Int × Int)) (n cap : Nat) (w : World) (hn : l.length = n) (hs : Sl2 w a l) (hg : GoodS l) (ht : Tab w) :
    Calls Tryd.prog 35 #[.slice a n cap] w fun e w' => e = .returned (.tuple #[.string (strOfNums (cat (nums l))), .bool true]) ∧ Below w.heap.size w w' := by
  have h40 := hg.1
  have C1 := hide (chunkNumbers_yes a l n cap w hn hs hg)
  have C2 := hide (fun a cap w hs ht => putEach_yes a (nums l) (1 + 2 * n) cap w (by rw [nums_len, hn]) hs (by omega) (okL_nums hg) ht)
  have HT := hide ht
  clear hn hs hg ht h40
  go_enter Tryd.func35, Tryd.ntmps35
  go_wp2_with fail
  refine C1.out.mono ?_
  rintro e w1 ⟨v, rfl, ho, hb1⟩
  obtain ⟨va, vc, rfl, hs, _⟩ := own_form ho
  have HS := hide hs
  have B1 := hide hb1
  clear ho hs hb1
  go_wp2_with fail
  refine (C2.out _ _ _ HS.out (HT.out.below B1.out)).mono ?_
  rintro e w2 ⟨rfl, hb2⟩
  have B2 := hide (B1.out.trans (hb2.mono B1.out.size))
  clear hb2
  go_wp2
  go_ret2
  exact ⟨rfl, B2.out⟩
set_option maxRecDepth 100000 in
set_option maxHeartbeats 400000 in
theorem encodeChunk_no (a : Option Addr) (l : List (Int × Int)) (n cap : Nat) (w : World) (hn : l.length = n) (hs : Sl2 w a l) (hn2 : n ≤ 1048576) (hg : ¬ GoodS l) :
    Calls Tryd.prog 35 #[.slice a n cap] w fun e w' => e = .returned (.tuple #[.string ⟨#[]⟩, .bool false]) ∧ Below w.heap.size w w' := by
  have C1 := hide (chunkNumbers_no a l n cap w hn hs hn2 hg)
  clear hn hs hg
  go_enter Tryd.func35, Tryd.ntmps35
  go_wp2_with fail
  refine C1.out.mono ?_
  rintro e w1 ⟨rfl, hb1⟩
  go_wp2
  go_ret2
  exact ⟨rfl, hb1⟩
end Go.Proofs.YtapffbbmofhpoaaDoor.L1

namespace Go.Proofs.YtapffbbmofhpoaaDoor.L1
open Go.RowKit
set_option linter.unusedVariables false

def both : Option (List (Int × Int)) → Option (List (Int × Int)) → Option (List (Int × Int))
  | some l, some m => some (l ++ m)
  | _, _ => none
theorem both_left (m : Option (List (Int × Int))) : both none m = none := by cases m <;> rfl
theorem both_right (l : List (Int × Int)) : both (some l) none = none := rfl
open Classical in
noncomputable def encT (r : Option (List (Int × Int))) : ByteArray := match r with
  | none => ⟨#[]⟩
  | some l => if GoodS l then strOfNums (cat (nums l)) else ⟨#[]⟩
open Classical in
noncomputable def encB (r : Option (List (Int × Int))) : Bool := match r with
  | none => false
  | some l => if GoodS l then true else false
theorem encT_none : encT none = ⟨#[]⟩ := rfl
theorem encB_none : encB none = false := rfl
theorem encT_yes {l m : List (Int × Int)} (h : GoodS (l ++ m)) : encT (both (some l) (some m)) = strOfNums (cat (nums (l ++ m))) := by simp only [both, encT]; rw [if_pos h]
theorem encB_yes {l m : List (Int × Int)} (h : GoodS (l ++ m)) : encB (both (some l) (some m)) = true := by simp only [both, encB]; rw [if_pos h]
theorem encT_no {l m : List (Int × Int)} (h : ¬ GoodS (l ++ m)) : encT (both (some l) (some m)) = ⟨#[]⟩ := by simp only [both, encT]; rw [if_neg h]
theorem encB_no {l m : List (Int × Int)} (h : ¬ GoodS (l ++ m)) : encB (both (some l) (some m)) = false := by simp only [both, encB]; rw [if_neg h]
end Go.Proofs.YtapffbbmofhpoaaDoor.L1

namespace Go.Proofs.YtapffbbmofhpoaaDoor.L1
open Go.RowKit
set_option linter.unusedVariables false

set_option maxRecDepth 100000 in
set_option maxHeartbeats 1000000 in
theorem specGetAll_any (s : ByteArray) (w : World) (hs : s.size ≤ 1048576) :
    Calls Tryd.prog 24 #[.string s] w fun e w' => RetL w (gaRes (bts s 0)) e w' := by
  have hlen := bts_len s 0
  simp only [Nat.sub_zero] at hlen
  by_cases h600 : 600 < (s.size : Int)
  · have e : gaRes (bts s 0) = none := by unfold gaRes; rw [if_neg (by omega)]
    have E := hide e
    clear e hlen
    go_enter Tryd.func24, Tryd.ntmps24
    go_wp2
    go_ret2
    exact ⟨_, by rw [E.out]; rfl, by rw [E.out]; exact World.ownsRow_nil _ _ _ _, Below.refl _ _⟩
  · have hc := l1GetAll_any s w (by omega)
    cases hg : gall (bts s 0) with
    | none =>
      have e : gaRes (bts s 0) = none := by unfold gaRes; rw [if_pos (by omega), hg]; rfl
      rw [hg] at hc
      have E := hide e
      have HC := hide hc
      clear e hc hg hlen
      go_enter Tryd.func24, Tryd.ntmps24
      go_wp2_with fail
      refine (unhide HC).mono ?_
      rintro e w1 ⟨v, rfl, ho, hb1⟩
      clear ho
      simp only [Option.isSome_none]
      go_wp2
      go_ret2
      exact ⟨_, by rw [E.out]; rfl, by rw [E.out]; exact World.ownsRow_nil _ _ _ _, hb1⟩
    | some xs =>
      rw [hg] at hc
      by_cases h60 : xs.length ≤ 60
      · have e : gaRes (bts s 0) = some xs := by unfold gaRes; rw [if_pos (by omega), hg]; simp [h60]
        have h60I : ¬ 60 < (xs.length : Int) := by omega
        have E := hide e
        have HC := hide hc
        clear e hc hg hlen
        go_enter Tryd.func24, Tryd.ntmps24
        go_wp2_with fail
        refine (unhide HC).mono ?_
        rintro e w1 ⟨v, rfl, ho, hb1⟩
        simp only [Option.isSome_some, Option.getD_some] at ho ⊢
        obtain ⟨a, cap, rfl, _, _⟩ := own_form ho
        have HO := hide ho
        clear ho
        go_wp2
        go_ret2
        exact ⟨_, by rw [E.out]; rfl, by rw [E.out]; exact HO.out, hb1⟩
      · have e : gaRes (bts s 0) = none := by unfold gaRes; rw [if_pos (by omega), hg]; simp [h60]
        have h60I : 60 < (xs.length : Int) := by omega
        have E := hide e
        have HC := hide hc
        clear e hc hg hlen
        go_enter Tryd.func24, Tryd.ntmps24
        go_wp2_with fail
        refine (unhide HC).mono ?_
        rintro e w1 ⟨v, rfl, ho, hb1⟩
        simp only [Option.isSome_some, Option.getD_some] at ho ⊢
        obtain ⟨a, cap, rfl, _, _⟩ := own_form ho
        clear ho
        go_wp2
        go_ret2
        exact ⟨_, by rw [E.out]; rfl, by rw [E.out]; exact World.ownsRow_nil _ _ _ _, hb1⟩
end Go.Proofs.YtapffbbmofhpoaaDoor.L1

namespace Go.Proofs.YtapffbbmofhpoaaDoor.L1
open Go.RowKit
set_option linter.unusedVariables false

set_option maxRecDepth 100000 in
set_option maxHeartbeats 1000000 in
theorem l1All_yes (a : Option Addr) (xs : List Int) (n cap : Nat) (w : World) (hn : xs.length = n) (hs : Sl w a xs) (hn2 : n ≤ 1048576) (hok : OkL xs) :
    Calls Tryd.prog 85 #[.slice a n cap, .int .i64 (-1000000000000), .int .i64 1000000000000] w fun e w' => e = .returned (.bool true) ∧ w = w' := by
  have HS := hide hs
  have HN := hide hn
  have HK := hide hok
  clear hs hn hok
  go_enter Tryd.func85, Tryd.ntmps85
  go_wp2
  go_loop [11] (fun i => ∃ k : Nat, k ≤ n ∧ i = .int .i64 k) (fun i => n - (intOf i).toNat)
  case atStart => exact ⟨0, Nat.zero_le _, rfl⟩
  case round =>
    obtain ⟨k, hk, rfl⟩ := hrel
    by_cases hlt : k < n
    · obtain ⟨b, off, rfl, hc⟩ := HS.out k (by rw [HN.out]; exact hlt)
      have hx := HK.out k (by rw [HN.out]; exact hlt)
      obtain ⟨x, hxe⟩ : ∃ x, x = xs.getD k 0 := ⟨_, rfl⟩
      rw [← hxe] at hc hx
      obtain ⟨hx1, hx2⟩ := hx
      have hltI : (k : Int) < (n : Int) := by omega
      clear hxe
      go_wp2
      go_round
      case rel => exact ⟨k + 1, by omega, by go_num⟩
      case measure => simp [intOf]; omega
    · have hltI : ¬ (k : Int) < (n : Int) := by omega
      go_wp2
      go_ret
      exact ⟨rfl, rfl⟩

set_option maxRecDepth 100000 in
set_option maxHeartbeats 1000000 in
theorem l1All_no (a : Option Addr) (xs : List Int) (n cap : Nat) (w : World) (hn : xs.length = n) (hs : Sl w a xs) (hn2 : n ≤ 1048576) (hno : ¬ OkL xs) :
    Calls Tryd.prog 85 #[.slice a n cap, .int .i64 (-1000000000000), .int .i64 1000000000000] w fun e w' => e = .returned (.bool false) ∧ w = w' := by
  have HS := hide hs
  have HN := hide hn
  have HK := hide hno
  clear hs hn hno
  go_enter Tryd.func85, Tryd.ntmps85
  go_wp2
  go_loop [11] (fun i => ∃ k : Nat, k ≤ n ∧ i = .int .i64 k ∧ Hid (∀ j, j < k → -1000000000000 ≤ xs.getD j 0 ∧ xs.getD j 0 ≤ 1000000000000)) (fun i => n - (intOf i).toNat)
  case atStart => exact ⟨0, Nat.zero_le _, rfl, fun j hj => absurd hj (Nat.not_lt_zero _)⟩
  case round =>
    obtain ⟨k, hk, rfl, HJ⟩ := hrel
    by_cases hlt : k < n
    · obtain ⟨b, off, rfl, hc⟩ := HS.out k (by rw [HN.out]; exact hlt)
      have hnext : -1000000000000 ≤ xs.getD k 0 → xs.getD k 0 ≤ 1000000000000 → ∀ j, j < k + 1 → -1000000000000 ≤ xs.getD j 0 ∧ xs.getD j 0 ≤ 1000000000000 := fun h1 h2 j hj => by
        by_cases e : j = k
        · subst e; exact ⟨h1, h2⟩
        · exact HJ.out j (by omega)
      obtain ⟨x, hxe⟩ : ∃ x, x = xs.getD k 0 := ⟨_, rfl⟩
      rw [← hxe] at hc hnext
      have HX := hide hnext
      have hltI : (k : Int) < (n : Int) := by omega
      clear hxe hnext
      by_cases h1 : -1000000000000 ≤ x
      · by_cases h2 : x ≤ 1000000000000
        · go_wp2
          go_round
          case rel => exact ⟨k + 1, by omega, by go_num, HX.out h1 h2⟩
          case measure => simp [intOf]; omega
        · go_wp2
          go_ret
          exact ⟨rfl, rfl⟩
      · go_wp2
        go_ret
        exact ⟨rfl, rfl⟩
    · exfalso
      exact HK.out (fun j hj => HJ.out j (by rw [HN.out] at hj; omega))
end Go.Proofs.YtapffbbmofhpoaaDoor.L1

namespace Go.Proofs.YtapffbbmofhpoaaDoor.L1
open Go.RowKit
set_option linter.unusedVariables false

set_option maxRecDepth 100000 in
set_option maxHeartbeats 1000000 in
theorem l1PutAll_any (a : Option Addr) (xs : List Int) (n cap : Nat) (w : World) (hn : xs.length = n) (hs : Sl w a xs) (hn2 : n ≤ 60) (hok : OkL xs) :
    Calls Tryd.prog 86 #[.slice a n cap] w fun e w' => e = .returned (.string (strOfNums (cat xs))) ∧ Below w.heap.size w w' := by
  have HS := hide hs
  have HN := hide hn
  have HK := hide hok
  clear hs hn hok
  go_enter Tryd.func86, Tryd.ntmps86
  go_wp2
  go_loopw [3, 8] (fun s i wr => ∃ k : Nat, k ≤ n ∧ i = .int .i64 k ∧ s = .string (strOfNums (cat (xs.take k))) ∧ Below w.heap.size w wr) (fun _ i _ => n - (intOf i).toNat)
  case atStart => exact ⟨0, Nat.zero_le _, rfl, rfl, Below.refl _ _⟩
  case round =>
    obtain ⟨k, hk, rfl, rfl, hbel⟩ := hrel
    by_cases hlt : k < n
    · obtain ⟨b, off, rfl, hc0⟩ := HS.out k (by rw [HN.out]; exact hlt)
      have hc : wr.cell? ⟨b, off + k, none⟩ = some (.int .i64 (xs.getD k 0)) := by
        rw [hbel.cell (p := ⟨b, off + k, none⟩) (blk_lt hc0)]
        exact hc0
      have hx := HK.out k (by rw [HN.out]; exact hlt)
      have hct := cat_take xs k (by rw [HN.out]; exact hlt)
      have hl1 : (strOfNums (cat (xs.take k))).size ≤ 360 := by
        rw [strOfNums_size]
        have := cat_len (xs.take k)
        have h2 : (xs.take k).length ≤ k := List.length_take_le _ _
        omega
      have hl2 : (strOfNums (vd (zig (xs.getD k 0)))).size ≤ 6 := by rw [strOfNums_size]; exact vdf_le 5 _
      have hst : strOfNums (cat (xs.take (k + 1))) = strOfNums (cat (xs.take k)) ++ strOfNums (vd (zig (xs.getD k 0))) := by rw [hct, str_append]
      have hvc := fun w => l1Varint_any (xs.getD k 0) w hx.1 hx.2
      obtain ⟨x, hxe⟩ : ∃ x, x = xs.getD k 0 := ⟨_, rfl⟩
      rw [← hxe] at hc hst hl2 hvc
      obtain ⟨A, hA⟩ : ∃ A, A = strOfNums (cat (xs.take k)) := ⟨_, rfl⟩
      rw [← hA] at hst hl1 ⊢
      obtain ⟨C, hC⟩ : ∃ C, C = strOfNums (vd (zig x)) := ⟨_, rfl⟩
      rw [← hC] at hst hl2 hvc
      have hsum : ¬ 9223372036854775807 < A.size + C.size := by omega
      have hltI : (k : Int) < (n : Int) := by omega
      have HV := hide hvc
      have HST := hide hst
      clear hc0 hx hct hxe hA hC hvc hst
      go_wp2_with (go_at_call 76; refine (unhide HV _).mono ?_; rintro e w1 ⟨rfl, hb1⟩)
      go_roundw
      case rel => exact ⟨k + 1, by omega, by go_num, by rw [HST.out], hbel.trans (Below.mono (by assumption) hbel.size)⟩
      case measure => simp [intOf]; omega
    · have e : xs.take k = xs := List.take_of_length_le (by rw [HN.out]; omega)
      rw [e]
      have hltI : ¬ (k : Int) < (n : Int) := by omega
      clear e
      go_wp2
      go_ret
      exact ⟨rfl, hbel⟩

set_option maxRecDepth 100000 in
set_option maxHeartbeats 1000000 in
theorem specPutAll_yes (a : Option Addr) (xs : List Int) (n cap : Nat) (w : World) (hn : xs.length = n) (hs : Sl w a xs) (hn2 : n ≤ 60) (hok : OkL xs) :
    Calls Tryd.prog 21 #[.slice a n cap] w fun e w' => e = .returned (.tuple #[.string (strOfNums (cat xs)), .bool true]) ∧ Below w.heap.size w w' := by
  have h60 : ¬ 60 < (n : Int) := by omega
  have c1 := hide (fun w hs => l1All_yes a xs n cap w hn hs (by omega) hok)
  have c2 := hide (fun w hs => l1PutAll_any a xs n cap w hn hs hn2 hok)
  have HS := hide hs
  clear hs hn hok
  go_enter Tryd.func21, Tryd.ntmps21
  go_wp2_with (first | (go_at_call 85; refine (unhide c1 _ HS.out).mono ?_; rintro e w1 ⟨rfl, rfl⟩) | (go_at_call 86; refine (unhide c2 _ HS.out).mono ?_; rintro e w1 ⟨rfl, hb1⟩))
  go_ret2
  exact ⟨rfl, by assumption⟩
set_option maxRecDepth 100000 in
set_option maxHeartbeats 1000000 in
theorem specPutAll_no (a : Option Addr) (xs : List Int) (n cap : Nat) (w : World) (hn : xs.length = n) (hs : Sl w a xs) (hn2 : n ≤ 1048576) (hno : ¬ (n ≤ 60 ∧ OkL xs)) :
    Calls Tryd.prog 21 #[.slice a n cap] w fun e w' => e = .returned (.tuple #[.string ⟨#[]⟩, .bool false]) ∧ w = w' := by
  by_cases h60 : 60 < (n : Int)
  · clear hno hs hn
    go_enter Tryd.func21, Tryd.ntmps21
    go_wp2
    go_ret2
    exact ⟨rfl, rfl⟩
  · have c1 := hide (l1All_no a xs n cap w hn hs (by omega) (fun h => hno ⟨by omega, h⟩))
    clear hno hs hn
    go_enter Tryd.func21, Tryd.ntmps21
    go_wp2_with (go_at_call 85; refine (unhide c1).mono ?_; rintro e w1 ⟨rfl, rfl⟩)
    go_ret2
    exact ⟨rfl, rfl⟩
end Go.Proofs.YtapffbbmofhpoaaDoor.L1
