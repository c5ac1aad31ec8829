/-
  Contracts: impl.partsOf, impl.partsOfTwo: the parts of a shape behind others.
-/
import Derived.Test.YtkdiffpbljohkayL5Grow
import Derived.Test.YtkdiffpbljohkayL5Text
namespace Go.Proofs.Ytkdiffpbljohkay.L5
open Go.RowKit L1 L4
set_option linter.unusedVariables false
theorem kind_noText (v : Value) (w : World) : (callMethod (.iface 105 v) "loop.example/g00522/impl.kind" #[]).run Try.prog w = .ok (.enter 107 #[v]) w := by kernel_rfl
theorem kind_emptyText (v : Value) (w : World) : (callMethod (.iface 101 v) "loop.example/g00522/impl.kind" #[]).run Try.prog w = .ok (.enter 105 #[v]) w := by kernel_rfl
theorem kind_oneLetter (v : Value) (w : World) : (callMethod (.iface 91 v) "loop.example/g00522/impl.kind" #[]).run Try.prog w = .ok (.enter 100 #[v]) w := by kernel_rfl
theorem kind_anyLetter (v : Value) (w : World) : (callMethod (.iface 102 v) "loop.example/g00522/impl.kind" #[]).run Try.prog w = .ok (.enter 106 #[v]) w := by kernel_rfl
theorem kind_thenShape (v : Value) (w : World) : (callMethod (.iface 93 v) "loop.example/g00522/impl.kind" #[]).run Try.prog w = .ok (.enter 101 #[v]) w := by kernel_rfl
theorem kind_eitherShape (v : Value) (w : World) : (callMethod (.iface 96 v) "loop.example/g00522/impl.kind" #[]).run Try.prog w = .ok (.enter 102 #[v]) w := by kernel_rfl
theorem kind_manyShape (v : Value) (w : World) : (callMethod (.iface 98 v) "loop.example/g00522/impl.kind" #[]).run Try.prog w = .ok (.enter 103 #[v]) w := by kernel_rfl
theorem kind_notShape (v : Value) (w : World) : (callMethod (.iface 99 v) "loop.example/g00522/impl.kind" #[]).run Try.prog w = .ok (.enter 104 #[v]) w := by kernel_rfl
attribute [local go_sem] mk_noText mk_emptyText mk_oneLetter mk_anyLetter mk_thenShape mk_eitherShape mk_manyShape mk_notShape as_noText_noText as_noText_emptyText as_noText_oneLetter as_noText_anyLetter as_noText_thenShape as_noText_eitherShape as_noText_manyShape as_noText_notShape as_emptyText_noText as_emptyText_emptyText as_emptyText_oneLetter as_emptyText_anyLetter as_emptyText_thenShape as_emptyText_eitherShape as_emptyText_manyShape as_emptyText_notShape as_oneLetter_noText as_oneLetter_emptyText as_oneLetter_oneLetter as_oneLetter_anyLetter as_oneLetter_thenShape as_oneLetter_eitherShape as_oneLetter_manyShape as_oneLetter_notShape as_anyLetter_noText as_anyLetter_emptyText as_anyLetter_oneLetter as_anyLetter_anyLetter as_anyLetter_thenShape as_anyLetter_eitherShape as_anyLetter_manyShape as_anyLetter_notShape as_thenShape_noText as_thenShape_emptyText as_thenShape_oneLetter as_thenShape_anyLetter as_thenShape_thenShape as_thenShape_eitherShape as_thenShape_manyShape as_thenShape_notShape as_eitherShape_noText as_eitherShape_emptyText as_eitherShape_oneLetter as_eitherShape_anyLetter as_eitherShape_thenShape as_eitherShape_eitherShape as_eitherShape_manyShape as_eitherShape_notShape as_manyShape_noText as_manyShape_emptyText as_manyShape_oneLetter as_manyShape_anyLetter as_manyShape_thenShape as_manyShape_eitherShape as_manyShape_manyShape as_manyShape_notShape as_notShape_noText as_notShape_emptyText as_notShape_oneLetter as_notShape_anyLetter as_notShape_thenShape as_notShape_eitherShape as_notShape_manyShape as_notShape_notShape kind_noText kind_emptyText kind_oneLetter kind_anyLetter kind_thenShape kind_eitherShape kind_manyShape kind_notShape
set_option maxRecDepth 100000 in
theorem kindc_noText (cs : Array Value) (w : World) : Calls Try.prog 107 #[.agg cs] w fun e w' => e = .returned (.int .i64 1) ∧ Below w.heap.size w w' := by
  go_enter Try.func107, Try.ntmps107
  go_wp2
  go_ret
  exact ⟨rfl, (Below.refl _ _).alloc (Nat.le_refl _) _⟩
set_option maxRecDepth 100000 in
theorem kindc_emptyText (cs : Array Value) (w : World) : Calls Try.prog 105 #[.agg cs] w fun e w' => e = .returned (.int .i64 2) ∧ Below w.heap.size w w' := by
  go_enter Try.func105, Try.ntmps105
  go_wp2
  go_ret
  exact ⟨rfl, (Below.refl _ _).alloc (Nat.le_refl _) _⟩
set_option maxRecDepth 100000 in
theorem kindc_oneLetter (cs : Array Value) (w : World) : Calls Try.prog 100 #[.agg cs] w fun e w' => e = .returned (.int .i64 3) ∧ Below w.heap.size w w' := by
  go_enter Try.func100, Try.ntmps100
  go_wp2
  go_ret
  exact ⟨rfl, (Below.refl _ _).alloc (Nat.le_refl _) _⟩
set_option maxRecDepth 100000 in
theorem kindc_anyLetter (cs : Array Value) (w : World) : Calls Try.prog 106 #[.agg cs] w fun e w' => e = .returned (.int .i64 4) ∧ Below w.heap.size w w' := by
  go_enter Try.func106, Try.ntmps106
  go_wp2
  go_ret
  exact ⟨rfl, (Below.refl _ _).alloc (Nat.le_refl _) _⟩
set_option maxRecDepth 100000 in
theorem kindc_thenShape (cs : Array Value) (w : World) : Calls Try.prog 101 #[.agg cs] w fun e w' => e = .returned (.int .i64 5) ∧ Below w.heap.size w w' := by
  go_enter Try.func101, Try.ntmps101
  go_wp2
  go_ret
  exact ⟨rfl, (Below.refl _ _).alloc (Nat.le_refl _) _⟩
set_option maxRecDepth 100000 in
theorem kindc_eitherShape (cs : Array Value) (w : World) : Calls Try.prog 102 #[.agg cs] w fun e w' => e = .returned (.int .i64 6) ∧ Below w.heap.size w w' := by
  go_enter Try.func102, Try.ntmps102
  go_wp2
  go_ret
  exact ⟨rfl, (Below.refl _ _).alloc (Nat.le_refl _) _⟩
set_option maxRecDepth 100000 in
theorem kindc_manyShape (cs : Array Value) (w : World) : Calls Try.prog 103 #[.agg cs] w fun e w' => e = .returned (.int .i64 7) ∧ Below w.heap.size w w' := by
  go_enter Try.func103, Try.ntmps103
  go_wp2
  go_ret
  exact ⟨rfl, (Below.refl _ _).alloc (Nat.le_refl _) _⟩
set_option maxRecDepth 100000 in
theorem kindc_notShape (cs : Array Value) (w : World) : Calls Try.prog 104 #[.agg cs] w fun e w' => e = .returned (.int .i64 8) ∧ Below w.heap.size w w' := by
  go_enter Try.func104, Try.ntmps104
  go_wp2
  go_ret
  exact ⟨rfl, (Below.refl _ _).alloc (Nat.le_refl _) _⟩
/-- What the call does at a shape. -/
def PC (x : Sh) : Prop := ∀ (base : Nat) (v : Value) (l : List Pr) (w : World), OwP w base v l → base ≤ w.heap.size → l.length + sz x ≤ 100000000 → Calls Try.prog 37 #[sv x, v] w fun e w' => RetF w base v (flat x l) e w'
set_option maxRecDepth 100000 in
set_option maxHeartbeats 4000000 in
theorem partsOf_none : PC .none := by
  intro base v l w ho hb hl
  obtain ⟨i1, hi1, hy0, hy1, hy2⟩ := info_parts info_part
  obtain ⟨a, cap, rfl⟩ := own_shapeT ho
  simp only [sz] at hl
  have HO := hide ho
  clear ho
  show Calls Try.prog 37 #[.iface 105 (.agg #[]), .slice a l.length cap] w _
  go_enter Try.func37, Try.ntmps37
  go_wp2_with fail
  refine (kindc_noText _ _).mono ?_
  rintro e w1 ⟨rfl, hb1⟩
  have hz1 : base ≤ w1.heap.size := Nat.le_trans hb hb1.size
  have O1 := hide (own_belowT HO.out hb1)
  have G1 := hide (grown_below0 hb1 (Value.slice a l.length cap).ownBlock)
  have HLT : Hid (∀ g, (Value.slice a l.length cap).ownBlock = some g → g < w.heap.size) := hide (fun g hg => own_at_lt HO.out hg)
  have HSZ := hide hb1.size
  clear hb1
  have O2 := hide (O1.out.alloc (.cells #[.int .i64 1, .string ByteArray.empty, .int .i64 0, .int .i64 0] 55))
  have G2 := hide (grown_trans G1.out (grown_alloc w1 (.cells #[.int .i64 1, .string ByteArray.empty, .int .i64 0, .int .i64 0] 55) (Value.slice a l.length cap).ownBlock) (fun g hg => .inl hg))
  go_wp2_with (first
    | (at_builtin; refine wpList_append_own_at _ rfl _ _ 24 rfl base 55 i1 (.agg #[.int .i64 0, .string ByteArray.empty, .int .i64 0, .int .i64 0]) 4 40 Try.underlying24 hi1 hy0 hy1 hy2 rfl (by decide) _ _ _ rfl (O2.out.alloc _) ⟨w1.heap.size + 1, 0, none⟩ 1 1 [.int .i64 1, .string ByteArray.empty, .int .i64 0, .int .i64 0] rfl rfl (cell_four_newP _ _ (by first | rfl | simp) _ _ _ _ _) (four_one _ _ _ _) (by unfold maxLen; omega) (by omega) (by simp; omega) ?_)
    | go_in)
  intro v6 w6 h6 g6 _ hat
  have HR := hide (fin_ret (p := ⟨1, ByteArray.empty, 0, 0⟩) G2.out (fun g hg => .inl hg) h6 g6 (hat.imp id (fun h => ⟨_, h, by first | exact Nat.le_refl _ | (simp; done) | (simp; omega)⟩)))
  obtain ⟨a6, c6, rfl⟩ := own_shapeT h6
  clear h6 g6 hat
  go_wp2
  go_ret
  exact HR.out
set_option maxRecDepth 100000 in
set_option maxHeartbeats 4000000 in
theorem partsOf_empty : PC .empty := by
  intro base v l w ho hb hl
  obtain ⟨i1, hi1, hy0, hy1, hy2⟩ := info_parts info_part
  obtain ⟨a, cap, rfl⟩ := own_shapeT ho
  simp only [sz] at hl
  have HO := hide ho
  clear ho
  show Calls Try.prog 37 #[.iface 101 (.agg #[]), .slice a l.length cap] w _
  go_enter Try.func37, Try.ntmps37
  go_wp2_with fail
  refine (kindc_emptyText _ _).mono ?_
  rintro e w1 ⟨rfl, hb1⟩
  have hz1 : base ≤ w1.heap.size := Nat.le_trans hb hb1.size
  have O1 := hide (own_belowT HO.out hb1)
  have G1 := hide (grown_below0 hb1 (Value.slice a l.length cap).ownBlock)
  have HLT : Hid (∀ g, (Value.slice a l.length cap).ownBlock = some g → g < w.heap.size) := hide (fun g hg => own_at_lt HO.out hg)
  have HSZ := hide hb1.size
  clear hb1
  have O2 := hide (O1.out.alloc (.cells #[.int .i64 2, .string ByteArray.empty, .int .i64 0, .int .i64 0] 55))
  have G2 := hide (grown_trans G1.out (grown_alloc w1 (.cells #[.int .i64 2, .string ByteArray.empty, .int .i64 0, .int .i64 0] 55) (Value.slice a l.length cap).ownBlock) (fun g hg => .inl hg))
  go_wp2_with (first
    | (at_builtin; refine wpList_append_own_at _ rfl _ _ 24 rfl base 55 i1 (.agg #[.int .i64 0, .string ByteArray.empty, .int .i64 0, .int .i64 0]) 4 40 Try.underlying24 hi1 hy0 hy1 hy2 rfl (by decide) _ _ _ rfl (O2.out.alloc _) ⟨w1.heap.size + 1, 0, none⟩ 1 1 [.int .i64 2, .string ByteArray.empty, .int .i64 0, .int .i64 0] rfl rfl (cell_four_newP _ _ (by first | rfl | simp) _ _ _ _ _) (four_one _ _ _ _) (by unfold maxLen; omega) (by omega) (by simp; omega) ?_)
    | go_in)
  intro v6 w6 h6 g6 _ hat
  have HR := hide (fin_ret (p := ⟨2, ByteArray.empty, 0, 0⟩) G2.out (fun g hg => .inl hg) h6 g6 (hat.imp id (fun h => ⟨_, h, by first | exact Nat.le_refl _ | (simp; done) | (simp; omega)⟩)))
  obtain ⟨a6, c6, rfl⟩ := own_shapeT h6
  clear h6 g6 hat
  go_wp2
  go_ret
  exact HR.out
set_option maxRecDepth 100000 in
set_option maxHeartbeats 4000000 in
theorem partsOf_letter (c : Int) (hc : 97 ≤ c ∧ c ≤ 122) : PC (.letter c) := by
  intro base v l w ho hb hl
  obtain ⟨i1, hi1, hy0, hy1, hy2⟩ := info_parts info_part
  obtain ⟨a, cap, rfl⟩ := own_shapeT ho
  simp only [sz] at hl
  have HE := hide (enc_letter hc)
  obtain ⟨h1, h2⟩ := hc
  have HO := hide ho
  clear ho
  show Calls Try.prog 37 #[.iface 91 (.agg #[.int .u8 c]), .slice a l.length cap] w _
  go_enter Try.func37, Try.ntmps37
  go_wp2_with fail
  refine (kindc_oneLetter _ _).mono ?_
  rintro e w1 ⟨rfl, hb1⟩
  have hz1 : base ≤ w1.heap.size := Nat.le_trans hb hb1.size
  have O1 := hide (own_belowT HO.out hb1)
  have G1 := hide (grown_below0 hb1 (Value.slice a l.length cap).ownBlock)
  have HLT : Hid (∀ g, (Value.slice a l.length cap).ownBlock = some g → g < w.heap.size) := hide (fun g hg => own_at_lt HO.out hg)
  have HSZ := hide hb1.size
  clear hb1
  have O2 := hide ((O1.out.alloc (.cells #[.int .i64 3, .string (Utf8.encode c), .int .i64 0, .int .i64 0] 55)).alloc (.cells #[.int .u8 c] 91))
  have G2 := hide (grown_trans (grown_trans G1.out (grown_alloc w1 (.cells #[.int .i64 3, .string (Utf8.encode c), .int .i64 0, .int .i64 0] 55) (Value.slice a l.length cap).ownBlock) (fun g hg => .inl hg)) (grown_alloc _ (.cells #[.int .u8 c] 91) (Value.slice a l.length cap).ownBlock) (fun g hg => .inl hg))
  go_wp2_with (first
    | (at_builtin; refine wpList_append_own_at _ rfl _ _ 24 rfl base 55 i1 (.agg #[.int .i64 0, .string ByteArray.empty, .int .i64 0, .int .i64 0]) 4 40 Try.underlying24 hi1 hy0 hy1 hy2 rfl (by decide) _ _ _ rfl (O2.out.alloc _) ⟨w1.heap.size + 1 + 1, 0, none⟩ 1 1 [.int .i64 3, .string ((Utf8.encode c)), .int .i64 0, .int .i64 0] rfl rfl (cell_four_newP _ _ (by first | rfl | simp) _ _ _ _ _) (four_one _ _ _ _) (by unfold maxLen; omega) (by omega) (by simp; omega) ?_)
    | go_in)
  intro v6 w6 h6 g6 _ hat
  have HR := hide (fin_ret (p := ⟨3, (Utf8.encode c), 0, 0⟩) G2.out (fun g hg => .inl hg) h6 g6 (hat.imp id (fun h => ⟨_, h, by first | exact Nat.le_refl _ | (simp; done) | (simp; omega)⟩)))
  obtain ⟨a6, c6, rfl⟩ := own_shapeT h6
  clear h6 g6 hat
  go_wp2
  go_ret
  have h9 := HR.out
  rw [HE.out] at h9
  exact h9
set_option maxRecDepth 100000 in
set_option maxHeartbeats 4000000 in
theorem partsOf_any' : PC .any := by
  intro base v l w ho hb hl
  obtain ⟨i1, hi1, hy0, hy1, hy2⟩ := info_parts info_part
  obtain ⟨a, cap, rfl⟩ := own_shapeT ho
  simp only [sz] at hl
  have HO := hide ho
  clear ho
  show Calls Try.prog 37 #[.iface 102 (.agg #[]), .slice a l.length cap] w _
  go_enter Try.func37, Try.ntmps37
  go_wp2_with fail
  refine (kindc_anyLetter _ _).mono ?_
  rintro e w1 ⟨rfl, hb1⟩
  have hz1 : base ≤ w1.heap.size := Nat.le_trans hb hb1.size
  have O1 := hide (own_belowT HO.out hb1)
  have G1 := hide (grown_below0 hb1 (Value.slice a l.length cap).ownBlock)
  have HLT : Hid (∀ g, (Value.slice a l.length cap).ownBlock = some g → g < w.heap.size) := hide (fun g hg => own_at_lt HO.out hg)
  have HSZ := hide hb1.size
  clear hb1
  have O2 := hide (O1.out.alloc (.cells #[.int .i64 4, .string ByteArray.empty, .int .i64 0, .int .i64 0] 55))
  have G2 := hide (grown_trans G1.out (grown_alloc w1 (.cells #[.int .i64 4, .string ByteArray.empty, .int .i64 0, .int .i64 0] 55) (Value.slice a l.length cap).ownBlock) (fun g hg => .inl hg))
  go_wp2_with (first
    | (at_builtin; refine wpList_append_own_at _ rfl _ _ 24 rfl base 55 i1 (.agg #[.int .i64 0, .string ByteArray.empty, .int .i64 0, .int .i64 0]) 4 40 Try.underlying24 hi1 hy0 hy1 hy2 rfl (by decide) _ _ _ rfl (O2.out.alloc _) ⟨w1.heap.size + 1, 0, none⟩ 1 1 [.int .i64 4, .string ByteArray.empty, .int .i64 0, .int .i64 0] rfl rfl (cell_four_newP _ _ (by first | rfl | simp) _ _ _ _ _) (four_one _ _ _ _) (by unfold maxLen; omega) (by omega) (by simp; omega) ?_)
    | go_in)
  intro v6 w6 h6 g6 _ hat
  have HR := hide (fin_ret (p := ⟨4, ByteArray.empty, 0, 0⟩) G2.out (fun g hg => .inl hg) h6 g6 (hat.imp id (fun h => ⟨_, h, by first | exact Nat.le_refl _ | (simp; done) | (simp; omega)⟩)))
  obtain ⟨a6, c6, rfl⟩ := own_shapeT h6
  clear h6 g6 hat
  go_wp2
  go_ret
  exact HR.out
/-- What the call on two shapes does. -/
def RetF2 (w : World) (base : Nat) (v : Value) (a b : Sh) (l : List Pr) (e : Ending) (w' : World) : Prop :=
  ∃ v', e = .returned (.tuple #[v', .int .i64 (((flat a l).length : Int) - 1), .int .i64 (((flat b (flat a l)).length : Int) - 1)]) ∧ OwP w' base v' (flat b (flat a l)) ∧ w.grownBy w' v.ownBlock ∧ ∀ g, v'.ownBlock = some g → v.ownBlock = some g ∨ w.heap.size ≤ g
set_option maxRecDepth 100000 in
set_option maxHeartbeats 4000000 in
theorem partsOfTwo_any (a b : Sh) (IA : PC a) (IB : PC b) (base : Nat) (v : Value) (l : List Pr) (w : World) (ho : OwP w base v l) (hb : base ≤ w.heap.size) (hl : l.length + sz a + sz b ≤ 100000000) :
    Calls Try.prog 62 #[sv a, sv b, v] w fun e w' => RetF2 w base v a b l e w' := by
  have la := flat_len a l
  have lb := flat_len b (flat a l)
  have pa := sz_pos a
  have pb := sz_pos b
  have C1 := hide (IA base v l w ho hb (by omega))
  have C2 := hide (fun v w ho hb => IB base v (flat a l) w ho hb (by omega))
  have HL1 : Hid (0 ≤ ((flat a l).length : Int) - 1 ∧ ((flat a l).length : Int) ≤ 100000000) := hide (by omega)
  have HL2 : Hid (0 ≤ ((flat b (flat a l)).length : Int) - 1 ∧ ((flat b (flat a l)).length : Int) ≤ 100000000) := hide (by omega)
  clear la lb pa pb IA IB hl
  obtain ⟨x, cap, rfl⟩ := own_shapeT ho
  clear ho
  go_enter Try.func62, Try.ntmps62
  go_wp2_with fail
  refine C1.out.mono ?_
  rintro e w1 ⟨v1, rfl, o1, g1, k1⟩
  have O1 := hide o1
  have G1 := hide g1
  have K1 := hide k1
  obtain ⟨x1, c1, rfl⟩ := own_shapeT o1
  clear o1 g1 k1
  go_wp2_with fail
  refine (C2.out _ _ O1.out (Nat.le_trans hb G1.out.size)).mono ?_
  rintro e w2 ⟨v2, rfl, o2, g2, k2⟩
  have O2 := hide o2
  have G2 := hide (grown_trans G1.out g2 K1.out)
  have K2 : Hid (∀ g, v2.ownBlock = some g → (Value.slice x l.length cap).ownBlock = some g ∨ w.heap.size ≤ g) := hide (fun g hg => by
    rcases k2 g hg with h | h
    · exact K1.out g h
    · exact .inr (Nat.le_trans G1.out.size h))
  obtain ⟨x2, c2, rfl⟩ := own_shapeT o2
  clear o2 g2 k2
  obtain ⟨h10, h11⟩ := HL1.out
  obtain ⟨h20, h21⟩ := HL2.out
  go_wp2
  go_ret3
  exact ⟨_, rfl, O2.out, G2.out, K2.out⟩
set_option maxRecDepth 100000 in
set_option maxHeartbeats 4000000 in
theorem partsOf_seq (A B : Sh) (IA : PC A) (IB : PC B) : PC (.seq A B) := by
  intro base v l w ho hb hl
  obtain ⟨i1, hi1, hy0, hy1, hy2⟩ := info_parts info_part
  obtain ⟨a, cap, rfl⟩ := own_shapeT ho
  simp only [sz] at hl
  have HO := hide ho
  clear ho
  show Calls Try.prog 37 #[.iface 93 (.agg #[sv A, sv B]), .slice a l.length cap] w _
  go_enter Try.func37, Try.ntmps37
  go_wp2_with fail
  refine (kindc_thenShape _ _).mono ?_
  rintro e w1 ⟨rfl, hb1⟩
  have hz1 : base ≤ w1.heap.size := Nat.le_trans hb hb1.size
  have O1 := hide (own_belowT HO.out hb1)
  have G1 := hide (grown_below0 hb1 (Value.slice a l.length cap).ownBlock)
  have HLT : Hid (∀ g, (Value.slice a l.length cap).ownBlock = some g → g < w.heap.size) := hide (fun g hg => own_at_lt HO.out hg)
  have HSZ := hide hb1.size
  clear hb1
  have la := flat_len A l
  have lb := flat_len B (flat A l)
  have pA := sz_pos A
  have pB := sz_pos B
  have HX2 : Hid (PX ((w1.alloc (.cells #[.int .i64 5, .string ByteArray.empty, .int .i64 0, .int .i64 0] 55)).alloc (.cells #[sv A, sv B] 93)) w1.heap.size ⟨5, ByteArray.empty, 0, 0⟩) := hide ((PX.newAt _ _ ⟨5, ByteArray.empty, 0, 0⟩ rfl).below ((Below.refl _ _).alloc (Nat.le_refl _) _))
  have O2 := hide ((O1.out.alloc (.cells #[.int .i64 5, .string ByteArray.empty, .int .i64 0, .int .i64 0] 55)).alloc (.cells #[sv A, sv B] 93))
  have G2 := hide (grown_trans (grown_trans G1.out (grown_alloc w1 (.cells #[.int .i64 5, .string ByteArray.empty, .int .i64 0, .int .i64 0] 55) (Value.slice a l.length cap).ownBlock) (fun g hg => .inl hg)) (grown_alloc _ (.cells #[sv A, sv B] 93) (Value.slice a l.length cap).ownBlock) (fun g hg => .inl hg))
  have HZ2 : Hid (((w1.alloc (.cells #[.int .i64 5, .string ByteArray.empty, .int .i64 0, .int .i64 0] 55)).alloc (.cells #[sv A, sv B] 93)).heap.size = w1.heap.size + 2) := by refine hide ?_; simp
  have C2 := hide (partsOfTwo_any A B IA IB base _ l _ O2.out (by have := HZ2.out; omega) (by omega))
  have hBlen : (flat B (flat A l)).length + 1 ≤ 100000000 := by omega
  have HLA := hide la
  have HLB := hide lb
  clear la lb pA pB IA IB
  go_wp2_with fail
  refine C2.out.mono ?_
  rintro e w3 ⟨v3, rfl, o3, g3, k3⟩
  have hx3 := HX2.out.grown g3 (fun e => by have h1 := HLT.out _ e; have h2 := HSZ.out; omega)
  have K3 : Hid (∀ g, v3.ownBlock = some g → ((Value.slice a l.length cap).ownBlock = some g ∨ w.heap.size ≤ g) ∧ g ≠ w1.heap.size) := hide (fun g hg => by
    have h2 := HSZ.out
    have h3 := HZ2.out
    rcases k3 g hg with h | h
    · have h1 := HLT.out g h
      exact ⟨.inl h, by omega⟩
    · exact ⟨.inr (by omega), by omega⟩)
  have G3 := hide (grown_trans G2.out g3 (fun g hg => .inl hg))
  obtain ⟨x3, c3, rfl⟩ := own_shapeT o3
  obtain ⟨qa, hqa⟩ : ∃ q : Int, q = ((flat A l).length : Int) - 1 := ⟨_, rfl⟩
  obtain ⟨qb, hqb⟩ : ∃ q : Int, q = ((flat B (flat A l)).length : Int) - 1 := ⟨_, rfl⟩
  rw [← hqa, ← hqb]
  have ca := hx3.at.a
  have cb := hx3.at.b
  have fa := hx3.frozen 2
  have hx4 := hx3.setA qa
  have cb4 := hx4.at.b
  have fb4 := hx4.frozen 3
  have hx5 := hx4.setB qb
  have d0 := hx5.at.k
  have d1 := hx5.at.t
  have d2 := hx5.at.a
  have d3 := hx5.at.b
  simp only [Nat.zero_add] at ca cb cb4 d1 d2 d3
  have G5 := hide (grown_trans (grown_trans G3.out (grown_set w3 w1.heap.size 2 (.int .i64 qa)) (fun g hg => by cases hg; exact .inr HSZ.out)) (grown_set _ w1.heap.size 3 (.int .i64 qb)) (fun g hg => by cases hg; exact .inr HSZ.out))
  have O5 : Hid (OwP ((w3.setCell ⟨w1.heap.size, 2, none⟩ (.int .i64 qa)).setCell ⟨w1.heap.size, 3, none⟩ (.int .i64 qb)) base (.slice x3 (flat B (flat A l)).length c3) (flat B (flat A l))) := hide
    (OwP.grown (OwP.grown o3 (grown_set w3 w1.heap.size 2 (.int .i64 qa)) (fun g hg e => by cases e; exact (K3.out _ hg).2 rfl)) (grown_set _ w1.heap.size 3 (.int .i64 qb)) (fun g hg e => by cases e; exact (K3.out _ hg).2 rfl))
  have HQ : Hid (qa = ((flat A l).length : Int) - 1 ∧ qb = ((flat B (flat A l)).length : Int) - 1) := hide ⟨hqa, hqb⟩
  have hbz : base ≤ w3.heap.size := by have := g3.size; have := HZ2.out; omega
  clear hx3 hx4 hx5 g3 k3 o3 hqa hqb
  go_wp2_with (first
    | (at_builtin; refine wpList_append_own_at _ rfl _ _ 24 rfl base 55 i1 (.agg #[.int .i64 0, .string ByteArray.empty, .int .i64 0, .int .i64 0]) 4 40 Try.underlying24 hi1 hy0 hy1 hy2 rfl (by decide) _ _ _ rfl (O5.out.alloc _) ⟨w3.heap.size, 0, none⟩ 1 1 [.int .i64 5, .string ByteArray.empty, .int .i64 qa, .int .i64 qb] rfl rfl (cell_four_newP _ _ (by first | rfl | simp) _ _ _ _ _) (four_one _ _ _ _) (by unfold maxLen; omega) (by omega) (by simp; omega) ?_)
    | go_in)
  intro v6 w6 h6 g6 _ hat
  have HR := hide (fin_ret (p := ⟨5, ByteArray.empty, qa, qb⟩) G5.out (fun g hg => (K3.out g hg).1) h6 g6 (hat.imp id (fun h => ⟨_, h, by first | exact Nat.le_refl _ | (simp; done) | (simp; omega)⟩)))
  obtain ⟨a6, c6, rfl⟩ := own_shapeT h6
  clear h6 g6 hat
  go_wp2
  go_ret
  have h9 := HR.out
  rw [HQ.out.1, HQ.out.2] at h9
  exact h9
set_option maxRecDepth 100000 in
set_option maxHeartbeats 4000000 in
theorem partsOf_alt (A B : Sh) (IA : PC A) (IB : PC B) : PC (.alt A B) := by
  intro base v l w ho hb hl
  obtain ⟨i1, hi1, hy0, hy1, hy2⟩ := info_parts info_part
  obtain ⟨a, cap, rfl⟩ := own_shapeT ho
  simp only [sz] at hl
  have HO := hide ho
  clear ho
  show Calls Try.prog 37 #[.iface 96 (.agg #[sv A, sv B]), .slice a l.length cap] w _
  go_enter Try.func37, Try.ntmps37
  go_wp2_with fail
  refine (kindc_eitherShape _ _).mono ?_
  rintro e w1 ⟨rfl, hb1⟩
  have hz1 : base ≤ w1.heap.size := Nat.le_trans hb hb1.size
  have O1 := hide (own_belowT HO.out hb1)
  have G1 := hide (grown_below0 hb1 (Value.slice a l.length cap).ownBlock)
  have HLT : Hid (∀ g, (Value.slice a l.length cap).ownBlock = some g → g < w.heap.size) := hide (fun g hg => own_at_lt HO.out hg)
  have HSZ := hide hb1.size
  clear hb1
  have la := flat_len A l
  have lb := flat_len B (flat A l)
  have pA := sz_pos A
  have pB := sz_pos B
  have HX2 : Hid (PX ((w1.alloc (.cells #[.int .i64 6, .string ByteArray.empty, .int .i64 0, .int .i64 0] 55)).alloc (.cells #[sv A, sv B] 96)) w1.heap.size ⟨6, ByteArray.empty, 0, 0⟩) := hide ((PX.newAt _ _ ⟨6, ByteArray.empty, 0, 0⟩ rfl).below ((Below.refl _ _).alloc (Nat.le_refl _) _))
  have O2 := hide ((O1.out.alloc (.cells #[.int .i64 6, .string ByteArray.empty, .int .i64 0, .int .i64 0] 55)).alloc (.cells #[sv A, sv B] 96))
  have G2 := hide (grown_trans (grown_trans G1.out (grown_alloc w1 (.cells #[.int .i64 6, .string ByteArray.empty, .int .i64 0, .int .i64 0] 55) (Value.slice a l.length cap).ownBlock) (fun g hg => .inl hg)) (grown_alloc _ (.cells #[sv A, sv B] 96) (Value.slice a l.length cap).ownBlock) (fun g hg => .inl hg))
  have HZ2 : Hid (((w1.alloc (.cells #[.int .i64 6, .string ByteArray.empty, .int .i64 0, .int .i64 0] 55)).alloc (.cells #[sv A, sv B] 96)).heap.size = w1.heap.size + 2) := by refine hide ?_; simp
  have C2 := hide (partsOfTwo_any A B IA IB base _ l _ O2.out (by have := HZ2.out; omega) (by omega))
  have hBlen : (flat B (flat A l)).length + 1 ≤ 100000000 := by omega
  have HLA := hide la
  have HLB := hide lb
  clear la lb pA pB IA IB
  go_wp2_with fail
  refine C2.out.mono ?_
  rintro e w3 ⟨v3, rfl, o3, g3, k3⟩
  have hx3 := HX2.out.grown g3 (fun e => by have h1 := HLT.out _ e; have h2 := HSZ.out; omega)
  have K3 : Hid (∀ g, v3.ownBlock = some g → ((Value.slice a l.length cap).ownBlock = some g ∨ w.heap.size ≤ g) ∧ g ≠ w1.heap.size) := hide (fun g hg => by
    have h2 := HSZ.out
    have h3 := HZ2.out
    rcases k3 g hg with h | h
    · have h1 := HLT.out g h
      exact ⟨.inl h, by omega⟩
    · exact ⟨.inr (by omega), by omega⟩)
  have G3 := hide (grown_trans G2.out g3 (fun g hg => .inl hg))
  obtain ⟨x3, c3, rfl⟩ := own_shapeT o3
  obtain ⟨qa, hqa⟩ : ∃ q : Int, q = ((flat A l).length : Int) - 1 := ⟨_, rfl⟩
  obtain ⟨qb, hqb⟩ : ∃ q : Int, q = ((flat B (flat A l)).length : Int) - 1 := ⟨_, rfl⟩
  rw [← hqa, ← hqb]
  have ca := hx3.at.a
  have cb := hx3.at.b
  have fa := hx3.frozen 2
  have hx4 := hx3.setA qa
  have cb4 := hx4.at.b
  have fb4 := hx4.frozen 3
  have hx5 := hx4.setB qb
  have d0 := hx5.at.k
  have d1 := hx5.at.t
  have d2 := hx5.at.a
  have d3 := hx5.at.b
  simp only [Nat.zero_add] at ca cb cb4 d1 d2 d3
  have G5 := hide (grown_trans (grown_trans G3.out (grown_set w3 w1.heap.size 2 (.int .i64 qa)) (fun g hg => by cases hg; exact .inr HSZ.out)) (grown_set _ w1.heap.size 3 (.int .i64 qb)) (fun g hg => by cases hg; exact .inr HSZ.out))
  have O5 : Hid (OwP ((w3.setCell ⟨w1.heap.size, 2, none⟩ (.int .i64 qa)).setCell ⟨w1.heap.size, 3, none⟩ (.int .i64 qb)) base (.slice x3 (flat B (flat A l)).length c3) (flat B (flat A l))) := hide
    (OwP.grown (OwP.grown o3 (grown_set w3 w1.heap.size 2 (.int .i64 qa)) (fun g hg e => by cases e; exact (K3.out _ hg).2 rfl)) (grown_set _ w1.heap.size 3 (.int .i64 qb)) (fun g hg e => by cases e; exact (K3.out _ hg).2 rfl))
  have HQ : Hid (qa = ((flat A l).length : Int) - 1 ∧ qb = ((flat B (flat A l)).length : Int) - 1) := hide ⟨hqa, hqb⟩
  have hbz : base ≤ w3.heap.size := by have := g3.size; have := HZ2.out; omega
  clear hx3 hx4 hx5 g3 k3 o3 hqa hqb
  go_wp2_with (first
    | (at_builtin; refine wpList_append_own_at _ rfl _ _ 24 rfl base 55 i1 (.agg #[.int .i64 0, .string ByteArray.empty, .int .i64 0, .int .i64 0]) 4 40 Try.underlying24 hi1 hy0 hy1 hy2 rfl (by decide) _ _ _ rfl (O5.out.alloc _) ⟨w3.heap.size, 0, none⟩ 1 1 [.int .i64 6, .string ByteArray.empty, .int .i64 qa, .int .i64 qb] rfl rfl (cell_four_newP _ _ (by first | rfl | simp) _ _ _ _ _) (four_one _ _ _ _) (by unfold maxLen; omega) (by omega) (by simp; omega) ?_)
    | go_in)
  intro v6 w6 h6 g6 _ hat
  have HR := hide (fin_ret (p := ⟨6, ByteArray.empty, qa, qb⟩) G5.out (fun g hg => (K3.out g hg).1) h6 g6 (hat.imp id (fun h => ⟨_, h, by first | exact Nat.le_refl _ | (simp; done) | (simp; omega)⟩)))
  obtain ⟨a6, c6, rfl⟩ := own_shapeT h6
  clear h6 g6 hat
  go_wp2
  go_ret
  have h9 := HR.out
  rw [HQ.out.1, HQ.out.2] at h9
  exact h9
set_option maxRecDepth 100000 in
set_option maxHeartbeats 4000000 in
theorem partsOf_many (A : Sh) (IA : PC A) : PC (.many A) := by
  intro base v l w ho hb hl
  obtain ⟨i1, hi1, hy0, hy1, hy2⟩ := info_parts info_part
  obtain ⟨a, cap, rfl⟩ := own_shapeT ho
  simp only [sz] at hl
  have HO := hide ho
  clear ho
  show Calls Try.prog 37 #[.iface 98 (.agg #[sv A]), .slice a l.length cap] w _
  go_enter Try.func37, Try.ntmps37
  go_wp2_with fail
  refine (kindc_manyShape _ _).mono ?_
  rintro e w1 ⟨rfl, hb1⟩
  have hz1 : base ≤ w1.heap.size := Nat.le_trans hb hb1.size
  have O1 := hide (own_belowT HO.out hb1)
  have G1 := hide (grown_below0 hb1 (Value.slice a l.length cap).ownBlock)
  have HLT : Hid (∀ g, (Value.slice a l.length cap).ownBlock = some g → g < w.heap.size) := hide (fun g hg => own_at_lt HO.out hg)
  have HSZ := hide hb1.size
  clear hb1
  have la := flat_len A l
  have pA := sz_pos A
  have HX2 : Hid (PX ((w1.alloc (.cells #[.int .i64 7, .string ByteArray.empty, .int .i64 0, .int .i64 0] 55)).alloc (.cells #[sv A] 98)) w1.heap.size ⟨7, ByteArray.empty, 0, 0⟩) := hide ((PX.newAt _ _ ⟨7, ByteArray.empty, 0, 0⟩ rfl).below ((Below.refl _ _).alloc (Nat.le_refl _) _))
  have O2 := hide ((O1.out.alloc (.cells #[.int .i64 7, .string ByteArray.empty, .int .i64 0, .int .i64 0] 55)).alloc (.cells #[sv A] 98))
  have G2 := hide (grown_trans (grown_trans G1.out (grown_alloc w1 (.cells #[.int .i64 7, .string ByteArray.empty, .int .i64 0, .int .i64 0] 55) (Value.slice a l.length cap).ownBlock) (fun g hg => .inl hg)) (grown_alloc _ (.cells #[sv A] 98) (Value.slice a l.length cap).ownBlock) (fun g hg => .inl hg))
  have HZ2 : Hid (((w1.alloc (.cells #[.int .i64 7, .string ByteArray.empty, .int .i64 0, .int .i64 0] 55)).alloc (.cells #[sv A] 98)).heap.size = w1.heap.size + 2) := by refine hide ?_; simp
  have C2 := hide (IA base _ l _ O2.out (by have := HZ2.out; omega) (by omega))
  have hBlen : (flat A l).length + 1 ≤ 100000000 := by omega
  have hA1 : 1 ≤ ((flat A l).length : Int) := by omega
  have hA2 : ((flat A l).length : Int) ≤ 100000000 := by omega
  clear la pA IA
  go_wp2_with fail
  refine C2.out.mono ?_
  rintro e w3 ⟨v3, rfl, o3, g3, k3⟩
  have hx3 := HX2.out.grown g3 (fun e => by have h1 := HLT.out _ e; have h2 := HSZ.out; omega)
  have K3 : Hid (∀ g, v3.ownBlock = some g → ((Value.slice a l.length cap).ownBlock = some g ∨ w.heap.size ≤ g) ∧ g ≠ w1.heap.size) := hide (fun g hg => by
    have h2 := HSZ.out
    have h3 := HZ2.out
    rcases k3 g hg with h | h
    · have h1 := HLT.out g h
      exact ⟨.inl h, by omega⟩
    · exact ⟨.inr (by omega), by omega⟩)
  have G3 := hide (grown_trans G2.out g3 (fun g hg => .inl hg))
  obtain ⟨x3, c3, rfl⟩ := own_shapeT o3
  have ca := hx3.at.a
  have fa := hx3.frozen 2
  have hx4 := hx3.setA (((flat A l).length : Int) - 1)
  have d0 := hx4.at.k
  have d1 := hx4.at.t
  have d2 := hx4.at.a
  have d3 := hx4.at.b
  simp only [Nat.zero_add] at ca d1 d2 d3
  have G5 := hide (grown_trans G3.out (grown_set w3 w1.heap.size 2 (.int .i64 (((flat A l).length : Int) - 1))) (fun g hg => by cases hg; exact .inr HSZ.out))
  have O5 : Hid (OwP (w3.setCell ⟨w1.heap.size, 2, none⟩ (.int .i64 (((flat A l).length : Int) - 1))) base (.slice x3 (flat A l).length c3) (flat A l)) := hide
    (OwP.grown o3 (grown_set w3 w1.heap.size 2 (.int .i64 (((flat A l).length : Int) - 1))) (fun g hg e => by cases e; exact (K3.out _ hg).2 rfl))
  have hbz : base ≤ w3.heap.size := by have := g3.size; have := HZ2.out; omega
  clear hx3 hx4 g3 k3 o3
  go_wp2_with (first
    | (at_builtin; refine wpList_append_own_at _ rfl _ _ 24 rfl base 55 i1 (.agg #[.int .i64 0, .string ByteArray.empty, .int .i64 0, .int .i64 0]) 4 40 Try.underlying24 hi1 hy0 hy1 hy2 rfl (by decide) _ _ _ rfl (O5.out.alloc _) ⟨w3.heap.size, 0, none⟩ 1 1 [.int .i64 7, .string ByteArray.empty, .int .i64 (((flat A l).length : Int) - 1), .int .i64 0] rfl rfl (cell_four_newP _ _ (by first | rfl | simp) _ _ _ _ _) (four_one _ _ _ _) (by unfold maxLen; omega) (by omega) (by simp; omega) ?_)
    | go_in)
  intro v6 w6 h6 g6 _ hat
  have HR := hide (fin_ret (p := ⟨7, ByteArray.empty, ((flat A l).length : Int) - 1, 0⟩) G5.out (fun g hg => (K3.out g hg).1) h6 g6 (hat.imp id (fun h => ⟨_, h, by first | exact Nat.le_refl _ | (simp; done) | (simp; omega)⟩)))
  obtain ⟨a6, c6, rfl⟩ := own_shapeT h6
  clear h6 g6 hat
  go_wp2
  go_ret
  exact HR.out
set_option maxRecDepth 100000 in
set_option maxHeartbeats 4000000 in
theorem partsOf_inv (A : Sh) (IA : PC A) : PC (.inv A) := by
  intro base v l w ho hb hl
  obtain ⟨i1, hi1, hy0, hy1, hy2⟩ := info_parts info_part
  obtain ⟨a, cap, rfl⟩ := own_shapeT ho
  simp only [sz] at hl
  have HO := hide ho
  clear ho
  show Calls Try.prog 37 #[.iface 99 (.agg #[sv A]), .slice a l.length cap] w _
  go_enter Try.func37, Try.ntmps37
  go_wp2_with fail
  refine (kindc_notShape _ _).mono ?_
  rintro e w1 ⟨rfl, hb1⟩
  have hz1 : base ≤ w1.heap.size := Nat.le_trans hb hb1.size
  have O1 := hide (own_belowT HO.out hb1)
  have G1 := hide (grown_below0 hb1 (Value.slice a l.length cap).ownBlock)
  have HLT : Hid (∀ g, (Value.slice a l.length cap).ownBlock = some g → g < w.heap.size) := hide (fun g hg => own_at_lt HO.out hg)
  have HSZ := hide hb1.size
  clear hb1
  have la := flat_len A l
  have pA := sz_pos A
  have HX2 : Hid (PX ((w1.alloc (.cells #[.int .i64 8, .string ByteArray.empty, .int .i64 0, .int .i64 0] 55)).alloc (.cells #[sv A] 99)) w1.heap.size ⟨8, ByteArray.empty, 0, 0⟩) := hide ((PX.newAt _ _ ⟨8, ByteArray.empty, 0, 0⟩ rfl).below ((Below.refl _ _).alloc (Nat.le_refl _) _))
  have O2 := hide ((O1.out.alloc (.cells #[.int .i64 8, .string ByteArray.empty, .int .i64 0, .int .i64 0] 55)).alloc (.cells #[sv A] 99))
  have G2 := hide (grown_trans (grown_trans G1.out (grown_alloc w1 (.cells #[.int .i64 8, .string ByteArray.empty, .int .i64 0, .int .i64 0] 55) (Value.slice a l.length cap).ownBlock) (fun g hg => .inl hg)) (grown_alloc _ (.cells #[sv A] 99) (Value.slice a l.length cap).ownBlock) (fun g hg => .inl hg))
  have HZ2 : Hid (((w1.alloc (.cells #[.int .i64 8, .string ByteArray.empty, .int .i64 0, .int .i64 0] 55)).alloc (.cells #[sv A] 99)).heap.size = w1.heap.size + 2) := by refine hide ?_; simp
  have C2 := hide (IA base _ l _ O2.out (by have := HZ2.out; omega) (by omega))
  have hBlen : (flat A l).length + 1 ≤ 100000000 := by omega
  have hA1 : 1 ≤ ((flat A l).length : Int) := by omega
  have hA2 : ((flat A l).length : Int) ≤ 100000000 := by omega
  clear la pA IA
  go_wp2_with fail
  refine C2.out.mono ?_
  rintro e w3 ⟨v3, rfl, o3, g3, k3⟩
  have hx3 := HX2.out.grown g3 (fun e => by have h1 := HLT.out _ e; have h2 := HSZ.out; omega)
  have K3 : Hid (∀ g, v3.ownBlock = some g → ((Value.slice a l.length cap).ownBlock = some g ∨ w.heap.size ≤ g) ∧ g ≠ w1.heap.size) := hide (fun g hg => by
    have h2 := HSZ.out
    have h3 := HZ2.out
    rcases k3 g hg with h | h
    · have h1 := HLT.out g h
      exact ⟨.inl h, by omega⟩
    · exact ⟨.inr (by omega), by omega⟩)
  have G3 := hide (grown_trans G2.out g3 (fun g hg => .inl hg))
  obtain ⟨x3, c3, rfl⟩ := own_shapeT o3
  have ca := hx3.at.a
  have fa := hx3.frozen 2
  have hx4 := hx3.setA (((flat A l).length : Int) - 1)
  have d0 := hx4.at.k
  have d1 := hx4.at.t
  have d2 := hx4.at.a
  have d3 := hx4.at.b
  simp only [Nat.zero_add] at ca d1 d2 d3
  have G5 := hide (grown_trans G3.out (grown_set w3 w1.heap.size 2 (.int .i64 (((flat A l).length : Int) - 1))) (fun g hg => by cases hg; exact .inr HSZ.out))
  have O5 : Hid (OwP (w3.setCell ⟨w1.heap.size, 2, none⟩ (.int .i64 (((flat A l).length : Int) - 1))) base (.slice x3 (flat A l).length c3) (flat A l)) := hide
    (OwP.grown o3 (grown_set w3 w1.heap.size 2 (.int .i64 (((flat A l).length : Int) - 1))) (fun g hg e => by cases e; exact (K3.out _ hg).2 rfl))
  have hbz : base ≤ w3.heap.size := by have := g3.size; have := HZ2.out; omega
  clear hx3 hx4 g3 k3 o3
  go_wp2_with (first
    | (at_builtin; refine wpList_append_own_at _ rfl _ _ 24 rfl base 55 i1 (.agg #[.int .i64 0, .string ByteArray.empty, .int .i64 0, .int .i64 0]) 4 40 Try.underlying24 hi1 hy0 hy1 hy2 rfl (by decide) _ _ _ rfl (O5.out.alloc _) ⟨w3.heap.size, 0, none⟩ 1 1 [.int .i64 8, .string ByteArray.empty, .int .i64 (((flat A l).length : Int) - 1), .int .i64 0] rfl rfl (cell_four_newP _ _ (by first | rfl | simp) _ _ _ _ _) (four_one _ _ _ _) (by unfold maxLen; omega) (by omega) (by simp; omega) ?_)
    | go_in)
  intro v6 w6 h6 g6 _ hat
  have HR := hide (fin_ret (p := ⟨8, ByteArray.empty, ((flat A l).length : Int) - 1, 0⟩) G5.out (fun g hg => (K3.out g hg).1) h6 g6 (hat.imp id (fun h => ⟨_, h, by first | exact Nat.le_refl _ | (simp; done) | (simp; omega)⟩)))
  obtain ⟨a6, c6, rfl⟩ := own_shapeT h6
  clear h6 g6 hat
  go_wp2
  go_ret
  exact HR.out
theorem partsOf_any : ∀ x, okS x → PC x
  | .none, _ => partsOf_none
  | .empty, _ => partsOf_empty
  | .letter c, h => partsOf_letter c h
  | .any, _ => partsOf_any'
  | .seq a b, h => partsOf_seq a b (partsOf_any a h.1) (partsOf_any b h.2)
  | .alt a b, h => partsOf_alt a b (partsOf_any a h.1) (partsOf_any b h.2)
  | .many a, h => partsOf_many a (partsOf_any a h)
  | .inv a, h => partsOf_inv a (partsOf_any a h)
end Go.Proofs.Ytkdiffpbljohkay.L5
