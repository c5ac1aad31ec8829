/-
  Contract: spec.ReadLabels.
-/
import Derived.Test.YthagpceagifjnaaDoorL3ReadMath
import Derived.Test.YthagpceagifjnaaDoorL3SpecGood
import Derived.Deep.RegionLaw
import Derived.Deep.AppendLies
import Derived.Deep.DeepCutAuto
namespace Go.Proofs.YthagpceagifjnaaDoor.L3
open Go.RowKit L1
set_option linter.unusedVariables false

theorem retLb_none {w w' : World} (hb : Below w.heap.size w w') : RetLb w none (.returned (.tuple #[.slice none 0 0, .bool false])) w' := ⟨.slice none 0 0, rfl, World.ownsRow_nil _ _ _ _, hb⟩
open Classical in
set_option maxRecDepth 100000 in
set_option maxHeartbeats 4000000 in
theorem specRead_bad (s : ByteArray) (w : World) (hs : s.size ≤ 1048576) (hb : ¬ (Br s ∧ s.size ≤ 600)) :
    Calls Tryd.prog 66 #[.string s] w fun e w' => RetLb w none e w' := by
  by_cases h1 : 2 ≤ s.size ∧ s.size ≤ 600
  · have C1 := hide (l1In_yes (s.size : Int) 2 600 w (by omega) (by omega))
    have h0 : 0 < s.size := by omega
    have h9 : s.size - 1 < s.size := by omega
    have hz : (0 : Int) < (s.size : Int) := by omega
    have hz9 : (0 : Int) ≤ (s.size : Int) - 1 := by omega
    have hz8 : (s.size : Int) - 1 < (s.size : Int) := by omega
    have hz7 : ((s.size : Int) - 1).toNat = s.size - 1 := by omega
    by_cases hx : s[0]'h0 = 123
    · have hy : s[s.size - 1]'h9 ≠ 125 := fun hy => hb ⟨⟨h1.1, by rw [at_some s 0 h0, hx], by rw [at_some s _ h9, hy]⟩, h1.2⟩
      have hyI : (((s[s.size - 1]'h9).toNat : Int) == 125) = false := by simpa using fun e => hy (UInt8.toNat_inj.1 (by simpa using (by omega : (s[s.size - 1]'h9).toNat = 125)))
      clear hb
      go_enter Tryd.func66, Tryd.ntmps66
      go_wp2_with fail
      refine C1.out.mono ?_
      rintro e w1 ⟨rfl, rfl⟩
      go_wp2
      go_ret2
      exact retLb_none (Below.refl _ _)
    · have hxI : (((s[0]'h0).toNat : Int) == 123) = false := by simpa using fun e => hx (UInt8.toNat_inj.1 (by simpa using (by omega : (s[0]'h0).toNat = 123)))
      clear hb
      go_enter Tryd.func66, Tryd.ntmps66
      go_wp2_with fail
      refine C1.out.mono ?_
      rintro e w1 ⟨rfl, rfl⟩
      go_wp2
      go_ret2
      exact retLb_none (Below.refl _ _)
  · have C1 := hide (l1In_no (s.size : Int) 2 600 w (by omega))
    clear hb
    go_enter Tryd.func66, Tryd.ntmps66
    go_wp2_with fail
    refine C1.out.mono ?_
    rintro e w1 ⟨rfl, rfl⟩
    go_wp2
    go_ret2
    exact retLb_none (Below.refl _ _)
theorem mem_sum : ∀ (l : List ByteArray) (p : ByteArray), p ∈ l → p.size + 1 ≤ (l.map (fun p => p.size + 1)).sum
  | [], p, h => by simp at h
  | q :: l, p, h => by
    simp only [List.map_cons, List.sum_cons]
    rcases List.mem_cons.1 h with rfl | h
    · omega
    · have := mem_sum l p h; omega
theorem get_size (l : List ByteArray) (j : Nat) : (l.getD j eX).size ≤ (l.map (fun p => p.size + 1)).sum := by
  by_cases h : j < l.length
  · have := mem_sum l (l.getD j eX) (by simp [List.getD, List.getElem?_eq_getElem h])
    omega
  · simp [List.getD, List.getElem?_eq_none (Nat.le_of_not_lt h)]
theorem kvD_size (p : ByteArray) : (kvD p).1.size ≤ p.size + 1 ∧ (kvD p).2.size ≤ p.size + 1 := by
  rw [parts_size 61 p]
  exact ⟨get_size _ _, get_size _ _⟩
theorem cell_two_newR (w : World) (p q : Value) (t : TypeId) : ∀ j u, [p, q][j]? = some u → (w.alloc (.cells #[p, q] t)).cell? ((⟨w.heap.size, 0, none⟩ : Addr).add j) = some u := by
  intro j u h
  rw [addr_add]
  match j, h with
  | 0, h => simp at h; subst h; simp
  | 1, h => simp at h; subst h; simp
  | j + 2, h => simp at h
theorem gL_nil : GoodL [] := ⟨Nat.zero_le _, fun j h => absurd h (Nat.not_lt_zero _)⟩
theorem Br.ends {s : ByteArray} (h : Br s) (h0 : 0 < s.size) (h9 : s.size - 1 < s.size) : s[0]'h0 = 123 ∧ s[s.size - 1]'h9 = 125 := by
  have a := h.2.1
  have b := h.2.2
  rw [at_some s 0 h0] at a
  rw [at_some s _ h9] at b
  exact ⟨by simpa using a, by simpa using b⟩
open Classical in
set_option maxRecDepth 100000 in
set_option maxHeartbeats 1000000 in
theorem specRead_two (s : ByteArray) (w : World) (hb : Br s) (h2 : s.size = 2) :
    Calls Tryd.prog 66 #[.string s] w fun e w' => RetLb w (some []) e w' := by
  have C1 := hide (l1In_yes (s.size : Int) 2 600 w (by omega) (by omega))
  have C2 := hide (specGoodLabels_any none [] 0 0 w rfl (fun i h => absurd h (Nat.not_lt_zero _)) (by omega) (fun i h => absurd h (Nat.not_lt_zero _)) true (by simp [gL_nil]))
  have h0 : 0 < s.size := by omega
  have h9 : s.size - 1 < s.size := by omega
  have hz : (0 : Int) < (s.size : Int) := by omega
  have hz9 : (0 : Int) ≤ (s.size : Int) - 1 := by omega
  have hz8 : (s.size : Int) - 1 < (s.size : Int) := by omega
  have hz7 : ((s.size : Int) - 1).toNat = s.size - 1 := by omega
  have hz6 : ¬ (2 : Int) < (s.size : Int) := by omega
  obtain ⟨hx, hy⟩ := hb.ends h0 h9
  have hxI : ((s[0]'h0).toNat : Int) = 123 := by rw [hx]; rfl
  have hyI : ((s[s.size - 1]'h9).toNat : Int) = 125 := by rw [hy]; rfl
  clear hb h2 hx hy
  go_enter Tryd.func66, Tryd.ntmps66
  go_wp2_with fail
  refine C1.out.mono ?_
  rintro e w1 ⟨rfl, rfl⟩
  go_wp2_with fail
  refine C2.out.mono ?_
  rintro e w1 ⟨rfl, hb1⟩
  go_wp2
  go_ret2
  exact ⟨_, rfl, World.ownsRow_nil _ _ _ _, hb1⟩
open Classical in
set_option maxRecDepth 100000 in
set_option maxHeartbeats 2000000 in
theorem specRead_more (s : ByteArray) (w : World) (hb : Br s) (h3 : 2 < s.size) (h600 : s.size ≤ 600) (r : Option (List Lb)) (hr : r = rdRes s) :
    Calls Tryd.prog 66 #[.string s] w fun e w' => RetLb w r e w' := by
  have C1 := hide (l1In_yes (s.size : Int) 2 600 w (by omega) (by omega))
  have hps : ps s = parts 44 (inr s) := by unfold ps; rw [if_neg (by omega)]
  obtain ⟨L, hL⟩ : ∃ L, L = parts 44 (inr s) := ⟨_, rfl⟩
  have hzi := inr_size s hb.1
  have hLl : L.length ≤ 600 := by have := parts_length 44 (inr s); rw [hL]; omega
  have hLne : L ≠ [] := by rw [hL]; exact parts_ne _ _
  have hLs : ∀ p ∈ L, p.size ≤ 600 := fun p hp => by
    have := parts_size 44 (inr s)
    rw [← hL] at this
    have h4 := mem_sum L p hp
    omega
  have C2 := hide (fun w => specSplit_any (inr s) 44 (by omega) 44 rfl w)
  rw [← hL] at C2
  have C3 := hide (fun p (hp : p ∈ L) w => specSplit_any p 61 (hLs p hp) 61 rfl w)
  unfold inr at C2
  have hrr : r = if (∀ p ∈ L, (parts 61 p).length = 2) ∧ GoodL (L.map kvD) then some (L.map kvD) else none := by
    rw [hr]; unfold rdRes
    rw [hps, ← hL]
    by_cases h : (∀ p ∈ L, (parts 61 p).length = 2) ∧ GoodL (L.map kvD)
    · rw [if_pos ⟨hb, h600, h⟩, if_pos h]
    · rw [if_neg (fun h' => h h'.2.2), if_neg h]
  have HRR := hide hrr
  have HLS := hide hLs
  have h0 : 0 < s.size := by omega
  have h9 : s.size - 1 < s.size := by omega
  have hz : (0 : Int) < (s.size : Int) := by omega
  have hz9 : (0 : Int) ≤ (s.size : Int) - 1 := by omega
  have hz8 : (s.size : Int) - 1 < (s.size : Int) := by omega
  have hz7 : ((s.size : Int) - 1).toNat = s.size - 1 := by omega
  have hz6 : (2 : Int) < (s.size : Int) := by omega
  have hz5 : (1 : Int) ≤ (s.size : Int) - 1 := by omega
  have hz4 : (s.size : Int) - 1 ≤ (s.size : Int) := by omega
  obtain ⟨hx, hy⟩ := hb.ends h0 h9
  have hxI : ((s[0]'h0).toNat : Int) = 123 := by rw [hx]; rfl
  have hyI : ((s[s.size - 1]'h9).toNat : Int) = 125 := by rw [hy]; rfl
  obtain ⟨i1, hi1, hy0, hy1, hy2⟩ := info_parts info_lab
  clear hb hr hrr hps hL hzi hLs hx hy
  go_enter Tryd.func66, Tryd.ntmps66
  go_wp2_with fail
  refine C1.out.mono ?_
  rintro e w1 ⟨rfl, rfl⟩
  go_wp2_with fail
  refine (C2.out _).mono ?_
  rintro e w2 ⟨v, rfl, ho2, hb2⟩
  obtain ⟨g, cap, rfl, hgb, hgl, hgc⟩ := own_formX ho2 hLne
  have B2 := hide hb2
  have GC := hide hgc
  clear ho2 hb2 hgc C1 C2
  go_wp2
  go_loopw [4, 35] (fun ot i wr => ∃ k : Nat, k ≤ L.length ∧ i = .int .i64 k ∧ Hid (wr.ownsRow w2.heap.size 105 2 ot k (flatL ((L.take k).map kvD))) ∧ Hid (∀ p ∈ L.take k, (parts 61 p).length = 2) ∧ Hid (Below w2.heap.size w2 wr)) (fun _ i _ => L.length - (intOf i).toNat)
  case atStart => exact ⟨0, Nat.zero_le _, rfl, World.ownsRow_nil _ _ _ _, hide (by simp), Below.refl _ _⟩
  case round =>
    obtain ⟨k, hk, rfl, HO, HK, HB⟩ := hrel
    obtain ⟨oa, ocap, rfl⟩ := own_shapeX HO.out
    have hsz := HB.out.size
    by_cases hlt : k < L.length
    · have hltI : (k : Int) < (L.length : Int) := by omega
      obtain ⟨p, hpe⟩ : ∃ p, p = L.getD k eX := ⟨_, rfl⟩
      have hp : p ∈ L := by rw [hpe]; simp [List.getD, List.getElem?_eq_getElem hlt]
      have htk : L.take (k + 1) = L.take k ++ [p] := by
        rw [List.take_succ_eq_append_getElem hlt, hpe]
        simp [List.getD, List.getElem?_eq_getElem hlt]
      have hc := (HB.out.cell (p := ⟨g, k, none⟩) hgl).trans (GC.out k hlt)
      rw [← hpe] at hc
      have C4 := hide (C3.out p hp)
      have HTK := hide htk
      clear hpe htk
      go_wp2_with fail
      refine (C4.out _).mono ?_
      rintro e w3 ⟨v, rfl, ho3, hb3⟩
      obtain ⟨g3, q3, rfl, hg3b, hg3l, hg3c⟩ := own_formX ho3 (parts_ne 61 p)
      have hne3 : (parts 61 p).length ≤ 601 := by have := parts_length 61 p; have := HLS.out p hp; omega
      have HO3 := hide (own_belowT HO.out hb3)
      have B3 := hide (HB.out.trans (hb3.mono hsz))
      have hsz3 := hb3.size
      by_cases h2 : (parts 61 p).length = 2
      · obtain ⟨x, hx⟩ : ∃ x, x = (parts 61 p).getD 0 eX := ⟨_, rfl⟩
        obtain ⟨y, hy⟩ : ∃ y, y = (parts 61 p).getD 1 eX := ⟨_, rfl⟩
        have hd0 := hg3c 0 (by omega)
        have hd1 := hg3c 1 (by omega)
        rw [← hx] at hd0
        rw [← hy] at hd1
        have hkv : kvD p = (x, y) := by unfold kvD; rw [hx, hy]
        have hfl : flatL ((L.take (k + 1)).map kvD) = flatL ((L.take k).map kvD) ++ [.string x, .string y] := by
          rw [HTK.out, List.map_append, List.map_cons, List.map_nil, hkv, flatL_append]; rfl
        obtain ⟨F, hF⟩ : ∃ F, F = flatL ((L.take k).map kvD) := ⟨_, rfl⟩
        rw [← hF] at hfl HO3
        have HFL := hide hfl
        have HK2 : Hid (∀ q ∈ L.take (k + 1), (parts 61 q).length = 2) := hide (by
          rw [HTK.out]
          intro q hq
          rcases List.mem_append.1 hq with h | h
          · exact HK.out q h
          · simp at h; rw [h]; exact h2)
        rw [h2] at ho3 ⊢
        have hkI : (k : Int) + 1 < 9223372036854775807 := by omega
        have PP : Hid (∀ (g4 c4 : Nat) (w4 : World), w4.ownsRow w2.heap.size 105 2 (.slice (some ⟨g4, 0, none⟩) (k + 1) c4) (k + 1) (F ++ [.string x, .string y]) → (w3.alloc (.cells #[.string x, .string y] 105)).drew.grownBy w4 (Value.slice oa k ocap).ownBlock → Hid (w4.ownsRow w2.heap.size 105 2 (.slice (some ⟨g4, 0, none⟩) (k + 1) c4) (k + 1) (flatL ((L.take (k + 1)).map kvD))) ∧ Hid (Below w2.heap.size w2 w4)) := hide (fun g4 c4 w4 h4 hg4 => ⟨by show World.ownsRow _ _ _ _ _ _ _; rw [HFL.out]; exact h4, B3.out.trans ((((Below.refl _ _).alloc (Nat.le_trans hsz hsz3) _).drew).grown hg4 (by show _ ≤ (w3.alloc _).heap.size; simp; omega) (fun q hq => (HO3.out.lt q hq).1))⟩)
        clear hg3c hx hy hkv hfl hF ho3 hb3 HO HK C4 hc HB h2 HTK
        go_wp2_with fail
        go_region_law (first
          | (refine step_append_lies _ rfl (.tmp 44) (.tmp 52) 61 rfl w2.heap.size 105 i1 (.agg #[.string ByteArray.empty, .string ByteArray.empty]) 2 32 Tryd.underlying61 hi1 hy0 hy1 hy2 rfl (by decide) (.slice oa k ocap) k F rfl (HO3.out.alloc (.cells #[.string x, .string y] 105)) ⟨w3.heap.size, 0, none⟩ 1 1 [.string x, .string y] rfl rfl (fun j u h => cell_two_newR w3 (.string x) (.string y) 105 j u h) (by intro u hu; simp at hu; rcases hu with rfl | rfl <;> rfl) (by decide) (by unfold maxLen; omega) (by omega) (Nat.le_trans (Nat.le_trans hsz hsz3) (by show w3.heap.size ≤ (w3.alloc _).heap.size; simp)) _ rfl ?_; intro g4 c4 w4 h4 hg4 _ _; have H4 := PP.out g4 c4 w4 h4 hg4; clear h4 hg4))
        all_goals (
          go_wp2
          go_roundw
          case rel => exact ⟨k + 1, by omega, by go_num, H4.1, HK2, H4.2⟩
          case measure => simp [intOf]; omega)
      · have hneI : (((parts 61 p).length : Int) == 2) = false := by simp only [beq_eq_false_iff_ne]; omega
        have hrn : r = none := by rw [HRR.out, if_neg (fun h => h2 (h.1 p hp))]
        have HRN := hide hrn
        clear hrn h2 ho3
        go_wp2
        go_ret2
        rw [HRN.out]
        exact retLb_none (B2.out.trans (B3.out.mono B2.out.size))
    · obtain rfl : k = L.length := by omega
      have hltI : ¬ (L.length : Int) < (L.length : Int) := by omega
      have e1 : L.take L.length = L := List.take_length
      have ho := HO.out
      have hk := HK.out
      rw [e1] at ho hk
      have hsl := own_slL ho
      have HSL := hide hsl
      have HOW := hide ho
      have hst : ∀ j, j < (L.map kvD).length → ((L.map kvD).getD j eL).1.size ≤ 9223372036854775807 ∧ ((L.map kvD).getD j eL).2.size ≤ 9223372036854775807 := fun j hj => by
        rw [List.length_map] at hj
        rw [getD_mapL kvD L j hj]
        have hm : L.getD j eX ∈ L := by simp [List.getD, List.getElem?_eq_getElem hj]
        have := HLS.out _ hm
        have := kvD_size (L.getD j eX)
        omega
      have C9 := hide (fun bb hbb => specGoodLabels_any oa (L.map kvD) L.length ocap wr (by simp) HSL.out (by omega) hst bb hbb)
      clear hsl ho hst e1
      by_cases hg : GoodL (L.map kvD)
      · have C8 := hide (C9.out true (by simp [hg]))
        have hrn : r = some (L.map kvD) := by rw [HRR.out, if_pos ⟨hk, hg⟩]
        have HRN := hide hrn
        clear hrn hg hk C9 HK HO
        go_wp2_with fail
        refine C8.out.mono ?_
        rintro e w3 ⟨rfl, hb3⟩
        go_wp2
        go_ret2
        rw [HRN.out]
        refine ⟨_, rfl, ?_, B2.out.trans ((HB.out.trans (hb3.mono hsz)).mono B2.out.size)⟩
        have := own_belowT HOW.out hb3
        simpa using own_baseT this B2.out.size
      · have C8 := hide (C9.out false (by simp [hg]))
        have hrn : r = none := by rw [HRR.out, if_neg (fun h => hg h.2)]
        have HRN := hide hrn
        clear hrn hg hk C9 HK HO
        go_wp2_with fail
        refine C8.out.mono ?_
        rintro e w3 ⟨rfl, hb3⟩
        go_wp2
        go_ret2
        rw [HRN.out]
        exact retLb_none (B2.out.trans ((HB.out.trans (hb3.mono hsz)).mono B2.out.size))
theorem specRead_any (s : ByteArray) (w : World) (hs : s.size ≤ 1048576) : Calls Tryd.prog 66 #[.string s] w fun e w' => RetLb w (rdRes s) e w' := by
  by_cases hb : Br s ∧ s.size ≤ 600
  · by_cases h2 : s.size = 2
    · have hps : ps s = [] := by unfold ps; rw [if_pos (by omega)]
      have : rdRes s = some [] := by
        unfold rdRes; rw [hps]
        rw [if_pos ⟨hb.1, hb.2, by simp, gL_nil⟩]; rfl
      rw [this]
      exact specRead_two s w hb.1 h2
    · exact specRead_more s w hb.1 (by have := hb.1.1; omega) hb.2 _ rfl
  · have : rdRes s = none := by unfold rdRes; rw [if_neg (fun h => hb ⟨h.1, h.2.1⟩)]
    rw [this]
    exact specRead_bad s w hs hb
end Go.Proofs.YthagpceagifjnaaDoor.L3
