/-
  Contracts: impl.shapeOfPart, impl.shapeOf: the tree of a good form.
-/
import Derived.Test.YtkdiffpbljohkayL5Shape
import Derived.Test.YtkdiffpbljohkayL5Word
import Derived.Deep.QuietTactic
import Derived.BigQuiet
import Derived.Maps.AppendAt
namespace Go.Proofs.Ytkdiffpbljohkay.L5
open Go.RowKit L1 L4
set_option linter.unusedVariables false
attribute [local go_sem] mk_noText mk_emptyText mk_oneLetter mk_anyLetter mk_thenShape mk_eitherShape mk_manyShape mk_notShape as_noText_noText as_noText_emptyText as_noText_oneLetter as_noText_anyLetter as_noText_thenShape as_noText_eitherShape as_noText_manyShape as_noText_notShape as_emptyText_noText as_emptyText_emptyText as_emptyText_oneLetter as_emptyText_anyLetter as_emptyText_thenShape as_emptyText_eitherShape as_emptyText_manyShape as_emptyText_notShape as_oneLetter_noText as_oneLetter_emptyText as_oneLetter_oneLetter as_oneLetter_anyLetter as_oneLetter_thenShape as_oneLetter_eitherShape as_oneLetter_manyShape as_oneLetter_notShape as_anyLetter_noText as_anyLetter_emptyText as_anyLetter_oneLetter as_anyLetter_anyLetter as_anyLetter_thenShape as_anyLetter_eitherShape as_anyLetter_manyShape as_anyLetter_notShape as_thenShape_noText as_thenShape_emptyText as_thenShape_oneLetter as_thenShape_anyLetter as_thenShape_thenShape as_thenShape_eitherShape as_thenShape_manyShape as_thenShape_notShape as_eitherShape_noText as_eitherShape_emptyText as_eitherShape_oneLetter as_eitherShape_anyLetter as_eitherShape_thenShape as_eitherShape_eitherShape as_eitherShape_manyShape as_eitherShape_notShape as_manyShape_noText as_manyShape_emptyText as_manyShape_oneLetter as_manyShape_anyLetter as_manyShape_thenShape as_manyShape_eitherShape as_manyShape_manyShape as_manyShape_notShape as_notShape_noText as_notShape_emptyText as_notShape_oneLetter as_notShape_anyLetter as_notShape_thenShape as_notShape_eitherShape as_notShape_manyShape as_notShape_notShape
/-- A list of shapes lies in memory. -/
def SlS (w : World) (a : Option Addr) (m : List Sh) : Prop := ∀ i, i < m.length → ∃ b off, a = some ⟨b, off, none⟩ ∧ w.cell? ⟨b, off + i, none⟩ = some (sv (m.getD i .none))
theorem SlS.below {w w' : World} {a : Option Addr} {xs : List Sh} (h : SlS w a xs) (hb : Below w.heap.size w w') : SlS w' a xs := fun i hi => by
  obtain ⟨b, off, ha, hc⟩ := h i hi
  exact ⟨b, off, ha, (hb.cell (p := ⟨b, off + i, none⟩) (blk_lt hc)).trans hc⟩
theorem sv_get (m : List Sh) (i : Nat) (h : i < m.length) : (m.map sv)[i]? = some (sv (m.getD i .none)) := by
  rw [List.getElem?_map, List.getElem?_eq_getElem h]
  simp [List.getD, List.getElem?_eq_getElem h]
theorem own_slS {w : World} {base n cap : Nat} {a : Option Addr} {m : List Sh} (h : w.ownsRow base 60 1 (.slice a n cap) n (m.map sv)) : SlS w a m := fun i hi => by
  have hl := h.1
  simp at hl
  rcases h.2 with ⟨hv, h0⟩ | ⟨g, c, cur, hv, _⟩
  · omega
  · cases hv
    have := h.cells (g := g) rfl i _ (sv_get m i hi)
    rw [addr_add] at this
    exact ⟨g, 0, rfl, by simpa using this⟩
theorem info_shape : (Try.prog.info? 60).map (fun i => (i.zero, i.size, i.bytes)) = some (some .nilIface, 1, 16) := by kernel_rfl
theorem below_drewS {B : Nat} {a w : World} (h : Below B a w) (n : Nat) : Below B a (w.drewN n) := h.trans ⟨rfl, rfl, rfl, Nat.le_refl _, fun _ _ => rfl⟩
theorem ret_val {u v : Value} (h : u = v) : Ending.returned u = .returned v := by rw [h]
set_option maxRecDepth 100000 in
set_option maxHeartbeats 2000000 in
theorem sop_1 (t : ByteArray) (a b : Int) (x : Option Addr) (n cap : Nat) (w : World) :
    Calls Try.prog 66 #[.agg #[.int .i64 1, .string t, .int .i64 a, .int .i64 b], .slice x n cap] w fun e w' => e = .returned (.iface 105 (.agg #[])) ∧ Below w.heap.size w w' := by
  go_enter Try.func66, Try.ntmps66
  go_wp2
  go_ret
  exact ⟨rfl, (Below.refl _ _).alloc (Nat.le_refl _) _⟩
set_option maxRecDepth 100000 in
set_option maxHeartbeats 2000000 in
theorem sop_2 (t : ByteArray) (a b : Int) (x : Option Addr) (n cap : Nat) (w : World) :
    Calls Try.prog 66 #[.agg #[.int .i64 2, .string t, .int .i64 a, .int .i64 b], .slice x n cap] w fun e w' => e = .returned (.iface 101 (.agg #[])) ∧ Below w.heap.size w w' := by
  go_enter Try.func66, Try.ntmps66
  go_wp2
  go_ret
  exact ⟨rfl, (Below.refl _ _).alloc (Nat.le_refl _) _⟩
set_option maxRecDepth 100000 in
set_option maxHeartbeats 2000000 in
theorem sop_4 (t : ByteArray) (a b : Int) (x : Option Addr) (n cap : Nat) (w : World) :
    Calls Try.prog 66 #[.agg #[.int .i64 4, .string t, .int .i64 a, .int .i64 b], .slice x n cap] w fun e w' => e = .returned (.iface 102 (.agg #[])) ∧ Below w.heap.size w w' := by
  go_enter Try.func66, Try.ntmps66
  go_wp2
  go_ret
  exact ⟨rfl, (Below.refl _ _).alloc (Nat.le_refl _) _⟩
set_option maxRecDepth 100000 in
set_option maxHeartbeats 2000000 in
theorem sop_3 (t : ByteArray) (c : Int) (hc : c = ltr t) (ht : t.size = 1) (a b : Int) (x : Option Addr) (n cap : Nat) (w : World) :
    Calls Try.prog 66 #[.agg #[.int .i64 3, .string t, .int .i64 a, .int .i64 b], .slice x n cap] w fun e w' => e = .returned (.iface 91 (.agg #[.int .u8 c])) ∧ Below w.heap.size w w' := by
  have h0 : (0 : Int) < (t.size : Int) := by omega
  have hb : ((t[0]'(by omega)).toNat : Int) = c := by rw [hc]; exact (bts_at t 0 (by omega)).symm
  clear hc
  go_enter Try.func66, Try.ntmps66
  go_wp2
  go_ret
  exact ⟨rfl, (Below.refl _ _).alloc (Nat.le_refl _) _⟩
set_option maxRecDepth 100000 in
set_option maxHeartbeats 2000000 in
theorem sop_5 (t : ByteArray) (a b : Nat) (g off n cap : Nat) (w : World) (X Y : Sh) (ha : a < n) (hb : b < n) (hg : g < w.heap.size) (h1 : w.cell? ⟨g, off + a, none⟩ = some (sv X)) (h2 : w.cell? ⟨g, off + b, none⟩ = some (sv Y)) :
    Calls Try.prog 66 #[.agg #[.int .i64 5, .string t, .int .i64 (a : Int), .int .i64 (b : Int)], .slice (some ⟨g, off, none⟩) n cap] w fun e w' => e = .returned (.iface 93 (.agg #[sv X, sv Y])) ∧ Below w.heap.size w w' := by
  have ha2 : (a : Int) < (n : Int) := by omega
  have hb2 : (b : Int) < (n : Int) := by omega
  go_enter Try.func66, Try.ntmps66
  go_wp2
  go_quiet (fail)
  go_wp2
  go_ret
  exact ⟨rfl, below_drewS ((Below.refl _ _).alloc (Nat.le_refl _) _) _⟩
set_option maxRecDepth 100000 in
set_option maxHeartbeats 2000000 in
theorem sop_6 (t : ByteArray) (a b : Nat) (g off n cap : Nat) (w : World) (X Y : Sh) (ha : a < n) (hb : b < n) (hg : g < w.heap.size) (h1 : w.cell? ⟨g, off + a, none⟩ = some (sv X)) (h2 : w.cell? ⟨g, off + b, none⟩ = some (sv Y)) :
    Calls Try.prog 66 #[.agg #[.int .i64 6, .string t, .int .i64 (a : Int), .int .i64 (b : Int)], .slice (some ⟨g, off, none⟩) n cap] w fun e w' => e = .returned (.iface 96 (.agg #[sv X, sv Y])) ∧ Below w.heap.size w w' := by
  have ha2 : (a : Int) < (n : Int) := by omega
  have hb2 : (b : Int) < (n : Int) := by omega
  go_enter Try.func66, Try.ntmps66
  go_wp2
  go_quiet (fail)
  go_wp2
  go_ret
  exact ⟨rfl, below_drewS ((Below.refl _ _).alloc (Nat.le_refl _) _) _⟩
set_option maxRecDepth 100000 in
set_option maxHeartbeats 2000000 in
theorem sop_7 (t : ByteArray) (a : Nat) (b : Int) (g off n cap : Nat) (w : World) (X : Sh) (ha : a < n) (hg : g < w.heap.size) (h1 : w.cell? ⟨g, off + a, none⟩ = some (sv X)) :
    Calls Try.prog 66 #[.agg #[.int .i64 7, .string t, .int .i64 (a : Int), .int .i64 b], .slice (some ⟨g, off, none⟩) n cap] w fun e w' => e = .returned (.iface 98 (.agg #[sv X])) ∧ Below w.heap.size w w' := by
  have ha2 : (a : Int) < (n : Int) := by omega
  go_enter Try.func66, Try.ntmps66
  go_wp2
  go_ret
  exact ⟨rfl, (Below.refl _ _).alloc (Nat.le_refl _) _⟩
set_option maxRecDepth 100000 in
set_option maxHeartbeats 2000000 in
theorem sop_8 (t : ByteArray) (a : Nat) (b : Int) (g off n cap : Nat) (w : World) (X : Sh) (ha : a < n) (hg : g < w.heap.size) (h1 : w.cell? ⟨g, off + a, none⟩ = some (sv X)) :
    Calls Try.prog 66 #[.agg #[.int .i64 8, .string t, .int .i64 (a : Int), .int .i64 b], .slice (some ⟨g, off, none⟩) n cap] w fun e w' => e = .returned (.iface 99 (.agg #[sv X])) ∧ Below w.heap.size w w' := by
  have ha2 : (a : Int) < (n : Int) := by omega
  go_enter Try.func66, Try.ntmps66
  go_wp2
  go_ret
  exact ⟨rfl, (Below.refl _ _).alloc (Nat.le_refl _) _⟩
theorem shapeOfPart_any (p : Pr) (i : Nat) (x : Option Addr) (cap : Nat) (m : List Sh) (w : World) (hok : okP i p) (hm : m.length = i) (hs : SlS w x m) :
    Calls Try.prog 66 #[svP p, .slice x i cap] w fun e w' => e = .returned (sv (shp p m)) ∧ Below w.heap.size w w' := by
  obtain ⟨k, t, a, b⟩ := p
  rcases hok with o | o | o | o
  · simp only at o
    rcases o.1 with rfl | rfl | rfl
    · rw [shp_1 rfl]; exact sop_1 t a b x i cap w
    · rw [shp_2 rfl]; exact sop_2 t a b x i cap w
    · rw [shp_4 rfl]; exact sop_4 t a b x i cap w
  · simp only at o
    obtain ⟨rfl, ht, _⟩ := o
    rw [shp_3 rfl]; exact sop_3 t (ltr t) rfl ht.1 a b x i cap w
  · simp only at o
    obtain ⟨ok, _, oa, ob⟩ := o
    obtain ⟨qa, rfl⟩ : ∃ q : Nat, a = (q : Int) := ⟨a.toNat, by omega⟩
    obtain ⟨qb, rfl⟩ : ∃ q : Nat, b = (q : Int) := ⟨b.toNat, by omega⟩
    obtain ⟨g, off, rfl, h1⟩ := hs qa (by omega)
    obtain ⟨g', off', e, h2⟩ := hs qb (by omega)
    cases e
    rcases ok with rfl | rfl
    · rw [shp_5 rfl]; exact sop_5 t qa qb g off i cap w _ _ (by omega) (by omega) (blk_lt h1) h1 h2
    · rw [shp_6 rfl]; exact sop_6 t qa qb g off i cap w _ _ (by omega) (by omega) (blk_lt h1) h1 h2
  · simp only at o
    obtain ⟨ok, _, oa, ob⟩ := o
    obtain ⟨qa, rfl⟩ : ∃ q : Nat, a = (q : Int) := ⟨a.toNat, by omega⟩
    obtain ⟨g, off, rfl, h1⟩ := hs qa (by omega)
    rcases ok with rfl | rfl
    · rw [shp_7 rfl]; exact sop_7 t qa b g off i cap w _ (by omega) (blk_lt h1) h1
    · rw [shp_8 rfl]; exact sop_8 t qa b g off i cap w _ (by omega) (blk_lt h1) h1
theorem sv_one (m : List Sh) : ∀ u ∈ m.map sv, u.oneCell' = true := fun u hu => by
  obtain ⟨x, _, rfl⟩ := List.mem_map.1 hu
  rfl
theorem cell_one_newS (w : World) (p : Value) (t : TypeId) : ∀ j u, [p][j]? = some u → (w.alloc (.cells #[p] t)).cell? ((⟨w.heap.size, 0, none⟩ : Addr).add j) = some u := by
  intro j u h
  rw [addr_add]
  match j, h with
  | 0, h => simp at h; subst h; simp
  | j + 1, h => simp at h
set_option maxRecDepth 100000 in
set_option maxHeartbeats 4000000 in
theorem shapeOf_any (a : Option Addr) (l : List Pr) (n cap : Nat) (w : World) (hn : l.length = n) (hs : SlP w a l) (hg : GoodF l) :
    Calls Try.prog 39 #[.slice a n cap] w fun e w' => e = .returned (sv (whole l)) ∧ Below w.heap.size w w' := by
  obtain ⟨i1, hi1, hy0, hy1, hy2⟩ := info_parts info_shape
  have hn24 : n ≤ 24 := by have := hg.1; omega
  have hn1 : 1 ≤ n := by have := hg.1; omega
  have HG := hide hg
  have HS := hide hs
  have HN := hide hn
  have HW : Hid (whole l = (made l).getD (n - 1) .none) := hide (by unfold whole T; rw [hn])
  clear hg hs hn
  go_enter Try.func39, Try.ntmps39
  go_wp2
  go_loopw [3, 8] (fun v i wr => ∃ k : Nat, k ≤ n ∧ i = .int .i64 k ∧ Hid (wr.ownsRow w.heap.size 60 1 v k ((made (l.take k)).map sv)) ∧ Hid (Below w.heap.size w wr)) (fun _ i _ => n - (intOf i).toNat)
  case atStart => exact ⟨0, Nat.zero_le _, rfl, World.ownsRow_nil _ _ _ _, Below.refl _ _⟩
  case round =>
    obtain ⟨k, hk, rfl, HO, HB⟩ := hrel
    obtain ⟨a3, c3, rfl⟩ := own_shapeT HO.out
    by_cases hlt : k < n
    · obtain ⟨b, off, rfl, hA0⟩ := HS.out k (by rw [HN.out]; exact hlt)
      have hA := hA0.base HB.out (blk_lt hA0.k)
      have hok := HG.out.2.1 k (by rw [HN.out]; exact hlt)
      have hml : (made (l.take k)).length = k := by rw [made_len, List.length_take, HN.out]; omega
      have hsn : made (l.take (k + 1)) = made (l.take k) ++ [shp (l.getD k eP) (made (l.take k))] := by rw [take_snoc l k (by rw [HN.out]; exact hlt), made_snoc]
      obtain ⟨p, hp⟩ : ∃ p, p = l.getD k eP := ⟨_, rfl⟩
      rw [← hp] at hA hok hsn
      have hc0 := hA.k
      have hc1 := hA.t
      have hc2 := hA.a
      have hc3 := hA.b
      have hltI : (k : Int) < (n : Int) := by omega
      obtain ⟨m, hm⟩ : ∃ m, m = made (l.take k) := ⟨_, rfl⟩
      rw [← hm] at hml hsn HO
      have HSN := hide hsn
      have S0 := hide (own_slS HO.out)
      have B1 := hide (HB.out.alloc HB.out.size (.cells #[.int .i64 p.k, .string p.t, .int .i64 p.a, .int .i64 p.b] 55))
      have A1 := hide ((Below.refl wr.heap.size wr).alloc (Nat.le_refl _) (.cells #[.int .i64 p.k, .string p.t, .int .i64 p.a, .int .i64 p.b] 55))
      have O1 := hide (HO.out.alloc (.cells #[.int .i64 p.k, .string p.t, .int .i64 p.a, .int .i64 p.b] 55))
      have HOK := hide hok
      have HML := hide hml
      clear hA0 hA hp hsn hok hm hml
      go_wp2_with fail
      refine (shapeOfPart_any p k a3 c3 m _ HOK.out HML.out (S0.out.below A1.out)).mono ?_
      rintro e w1 ⟨rfl, hb1⟩
      have B2 := hide (B1.out.trans (hb1.mono B1.out.size))
      have O2 := hide (own_belowT O1.out hb1)
      have hz2 := B2.out.size
      obtain ⟨X, hX⟩ : ∃ X, X = shp p m := ⟨_, rfl⟩
      rw [← hX] at HSN ⊢
      clear hb1 hX
      go_wp2_with (first
        | (at_builtin; refine wpList_append_own _ rfl _ _ 106 rfl w.heap.size 60 i1 .nilIface 1 16 Try.underlying106 hi1 hy0 hy1 hy2 rfl (by decide) _ _ _ rfl (O2.out.alloc _) ⟨w1.heap.size, 0, none⟩ 1 1 [sv X] rfl rfl (cell_one_newS _ _ _) (by intro u hu; simp at hu; subst hu; rfl) (by unfold maxLen; omega) (by omega) (by simp; omega) ?_)
        | go_in)
      intro v3 w3 hown3 hgrow3 _
      have hb3 := B2.out.trans (((Below.refl _ _).alloc hz2 _).grown hgrow3 (by simp; omega) (fun g hg => (O2.out.lt g hg).1))
      obtain ⟨a4, c4, rfl⟩ := own_shapeT hown3
      have O3 : Hid (w3.ownsRow w.heap.size 60 1 (.slice a4 (k + 1) c4) (k + 1) ((made (l.take (k + 1))).map sv)) := hide (by rw [HSN.out, List.map_append]; exact hown3)
      have B3 := hide hb3
      clear hown3 hgrow3 hb3
      go_wp2
      go_roundw
      case rel => exact ⟨k + 1, by omega, by go_num, O3, B3⟩
      case measure => simp [intOf]; omega
    · obtain rfl : k = n := by omega
      have hltI : ¬ (k : Int) < (k : Int) := by omega
      have e1 : l.take k = l := List.take_of_length_le (by rw [HN.out]; exact Nat.le_refl _)
      rw [e1] at HO
      obtain ⟨b, off, rfl, hc⟩ := own_slS HO.out (k - 1) (by rw [made_len, HN.out]; omega)
      rw [← HW.out] at hc
      obtain ⟨q, hq⟩ : ∃ q : Nat, k = q + 1 := ⟨k - 1, by omega⟩
      subst hq
      have hqs : q + 1 - 1 = q := by omega
      rw [hqs] at hc
      have hq1 : ((q + 1 : Nat) : Int) - 1 = (q : Int) := by omega
      have hq2 : (q : Int) < ((q + 1 : Nat) : Int) := by omega
      obtain ⟨X, hX⟩ : ∃ X, X = whole l := ⟨_, rfl⟩
      rw [← hX] at hc
      have HX := hide hX
      clear hX e1 hqs
      go_wp2
      go_ret
      exact ⟨by rw [← HX.out]; rfl, HB.out⟩
end Go.Proofs.Ytkdiffpbljohkay.L5
