/-
  Stamps of events in memory; contract: impl.StampsOf.
-/
import Derived.Test.YtkfnejiiancmhahL11Good
import Derived.Test.YtkfnejiiancmhahArr
import Derived.Deep.DeepCutAuto
import Derived.Maps.AppendAt
namespace Go.Proofs.Ytkfnejiiancmhah.L11
open Go.RowKit L1 Own
set_option linter.unusedVariables false

/-- The stamps of the first events. -/
def stps (l : List Ev) (k : Nat) : List Int := (List.range k).map (stp l)
theorem stps_len (l : List Ev) (k : Nat) : (stps l k).length = k := by simp [stps]
theorem stps_succ (l : List Ev) (k : Nat) : stps l (k + 1) = stps l k ++ [stp l k] := by simp [stps, List.range_succ]
theorem stps_get (l : List Ev) (k i : Nat) (h : i < k) : (stps l k).getD i 0 = stp l i := by simp [stps, List.getD, h]
open Classical in
/-- What StampsOf tells. -/
noncomputable def stRes (N : Int) (l : List Ev) : Option (List Int) := if GoodV N l then some (stps l l.length) else none
theorem cell_one11 (w : World) (g : Nat) (hg : w.heap.size = g) (p : Value) (t : TypeId) : ∀ j u, [p][j]? = some u → (w.alloc (.cells #[p] t)).cell? ((⟨g, 0, none⟩ : Addr).add j) = some u := by
  subst hg
  intro j u h
  rw [addr_add]
  match j, h with
  | 0, h => simp at h; subst h; simp
  | j + 1, h => simp at h
theorem own_set11 {w : World} {base n c : Nat} {t : TypeId} {v : Value} {xs : List Value} (h : w.ownsRow base t c v n xs) (g i : Nat) (u : Value) (hg : g < base) : (w.setCell ⟨g, i, none⟩ u).ownsRow base t c v n xs := by
  refine ⟨h.1, ?_⟩
  rcases h.2 with h0 | ⟨q, cap, cur, hv, hb, hh, rest⟩
  · exact .inl h0
  · exact .inr ⟨q, cap, cur, hv, hb, by rw [Below.heap_setCell w ⟨g, i, none⟩ u q (show q ≠ g by omega)]; exact hh, rest⟩
/-- The last stamp at each node. -/
def lstS (l : List Ev) (k : Nat) (i : Nat) : Int := stpO l (pri l (i : Int) k)
theorem lstS_bd (l : List Ev) (k i : Nat) : 0 ≤ lstS l k i ∧ lstS l k i ≤ (k : Int) := by
  have h1 := stpO_bd l (pri l (i : Int) k)
  have h2 := pri_lt l (i : Int) k
  unfold lstS
  omega
theorem lstS_succ (l : List Ev) (k xn : Nat) (hx : nd l k = (xn : Int)) (i : Nat) : updI (lstS l k) xn (stp l k) i = lstS l (k + 1) i := by
  unfold updI lstS
  show _ = stpO l (if nd l k = (i : Int) then (k : Int) else pri l (i : Int) k)
  by_cases e : i = xn
  · subst e
    rw [if_pos rfl, if_pos hx]
    unfold stpO
    rw [if_pos (by omega)]
    rfl
  · rw [if_neg e, if_neg (by omega)]
theorem arr_grown {w w' : World} {t : TypeId} {n base g : Nat} {E : Nat → Int} {r : Option Nat} (h : Arr t n w base g E) (hg : w.grownBy w' r) (hne : r ≠ some g) : Arr t n w' base g E :=
  World.ownsRow.kept h hg (.inr (fun e => hne e.symm))
set_option maxRecDepth 100000 in
set_option maxHeartbeats 4000000 in
theorem stampsOf_any (N : Int) (a : Option Addr) (l : List (Int × Int)) (n cap : Nat) (w : World) (hn : l.length = n) (hs : Sl2 w a l) (hn2 : n ≤ 1048576) (r : Option (List Int)) (hr : r = stRes N l) :
    Calls Try.prog 27 #[.int .i64 N, .slice a n cap] w fun e w' => RetL w r e w' := by
  by_cases hg : GoodV N l
  case neg =>
    have C := hide (goodEvents_any N a l n cap w hn hs hn2 false (by simp [hg]))
    have HR : Hid (r = none) := by rw [hr]; unfold stRes; rw [if_neg hg]; rfl
    clear hr hg hs hn
    go_enter Try.func27, Try.ntmps27
    go_wp2_with fail
    refine C.out.mono ?_
    rintro e w1 ⟨rfl, hb1⟩
    have B1 := hide hb1
    clear hb1
    go_wp2
    go_ret2
    exact ⟨_, by rw [HR.out]; rfl, by rw [HR.out]; exact World.ownsRow_nil _ _ _ _, B1.out⟩
  have C := hide (goodEvents_any N a l n cap w hn hs hn2 true (by simp [hg]))
  have HR : Hid (r = some (stps l n)) := by rw [hr]; unfold stRes; rw [if_pos hg, hn]; rfl
  have h40 : n ≤ 40 := by have := hg.2.2.1; omega
  obtain ⟨i1, hi1, hy0, hy1, hy2⟩ := info_parts info_int
  have HG := hide hg
  have HS := hide hs
  have HN := hide hn
  clear hr hg hs hn
  go_enter Try.func27, Try.ntmps27
  go_wp2_with fail
  refine C.out.mono ?_
  rintro e w1 ⟨rfl, hb1⟩
  have B1 := hide hb1
  have HS1 := hide (HS.out.below hb1)
  clear hb1 C
  go_upto_region 5 with fail
  obtain ⟨W, hW⟩ : ∃ W, w1.alloc (.cells #[.int .i64 0, .int .i64 0, .int .i64 0, .int .i64 0, .int .i64 0] 58) = W := ⟨_, rfl⟩
  have A0 : Hid (Arr 58 5 W w.heap.size w1.heap.size (lstS l 0)) := by rw [← hW]; exact hide (arr_new _ 5 w1 _ _ rfl B1.out.size (by omega) _ _ rfl)
  have B2 : Hid (Below w.heap.size w W) := by rw [← hW]; exact hide (B1.out.alloc B1.out.size _)
  have HS2 : Hid (Sl2 W a l) := by rw [← hW]; exact hide (HS1.out.below ((Below.refl _ _).alloc (Nat.le_refl _) _))
  have hzW : W.heap.size = w1.heap.size + 1 := by rw [← hW]; simp
  have HZW := hide hzW
  rw [hW]
  obtain ⟨g, hg⟩ : ∃ g, g = w1.heap.size := ⟨_, rfl⟩
  rw [← hg] at A0 HZW ⊢
  have hwg : w.heap.size ≤ g := by have := B1.out.size; omega
  have HWG := hide hwg
  clear hW hzW HS1 B1 hg hwg
  go_wp2
  go_loopw [6, 17] (fun ot i wr => ∃ k : Nat, k ≤ n ∧ i = .int .i64 k ∧ wr.ownsRow (g + 1) 3 1 ot k ((stps l k).map (Value.int .i64)) ∧ Arr 58 5 wr w.heap.size g (lstS l k) ∧ Below w.heap.size w wr) (fun _ i _ => n - (intOf i).toNat)
  case atStart => exact ⟨0, Nat.zero_le _, rfl, World.ownsRow_nil _ _ _ _, A0.out, B2.out⟩
  case round =>
    obtain ⟨k, hk, rfl, hown, harr, hbel⟩ := hrel
    have hsl := HS.out.below hbel
    have hgw := harr.lt
    by_cases hlt : k < n
    · have hv := HG.out.2.2.2 k (by rw [HN.out]; exact hlt)
      have hN5 := HG.out.2.1
      obtain ⟨xn, hx⟩ : ∃ xn : Nat, nd l k = (xn : Int) := ⟨(nd l k).toNat, by have := hv.1; omega⟩
      have hx5 : xn < 5 := by have := hv.2.1; omega
      obtain ⟨b, off, rfl, q1, q2⟩ := hsl k (by rw [HN.out]; exact hlt)
      clear q1 q2
      obtain ⟨hc, hd⟩ := hsl.two k (by rw [HN.out]; exact hlt)
      rw [hx] at hc
      obtain ⟨oa, ocap, rfl, hso, q1⟩ := own_form hown
      clear q1
      have hltI : (k : Int) < (n : Int) := by omega
      have hxI : (xn : Int) < 5 := by omega
      have hx0 : (0 : Int) ≤ (xn : Int) := by omega
      obtain ⟨y, hy⟩ : ∃ y, y = fr l k := ⟨_, rfl⟩
      rw [← hy] at hd
      have HY := hide hy
      have HX := hide hx
      have HV := hide hv
      have HROW := hide hown
      have HARR := hide harr
      have HSO := hide hso
      have HSL := hide hsl
      have B0 := hide hbel
      have hsz := hbel.size
      have HGW := hide hgw
      clear hy hx hv hown harr hso hsl hbel hgw
      go_upto_region 8 with fail
      obtain ⟨W0, hW0⟩ : ∃ W0, wr.alloc (.cells #[.int .i64 xn, .int .i64 y] 48) = W0 := ⟨_, rfl⟩
      have hbw : Below wr.heap.size wr W0 := by rw [← hW0]; exact (Below.refl _ _).alloc (Nat.le_refl _) _
      have e0 : W0.cell? ⟨wr.heap.size, 0, none⟩ = some (.int .i64 xn) := by rw [← hW0]; simp
      have e1 : W0.cell? ⟨wr.heap.size, 1, none⟩ = some (.int .i64 y) := by rw [← hW0]; simp
      have HARR0 := hide (HARR.out.below hbw)
      have HROW0 := hide (own_belowT HROW.out hbw)
      have HSL0 := hide (HSL.out.below hbw)
      have HSO0 := hide (HSO.out.below hbw)
      have B00 := hide (B0.out.trans (hbw.mono B0.out.size))
      have HGW0 : Hid (g < W0.heap.size) := hide (Nat.lt_of_lt_of_le HGW.out hbw.size)
      rw [hW0]
      have hl0 := HARR0.out.cell xn hx5
      have hlf := HARR0.out.frozenAt xn
      have hlb := lstS_bd l k xn
      have hst := stp_eq l k HV.out.2.2.2.1
      have hsP : stpO l (pri l (nd l k) k) = lstS l k xn := by unfold lstS; rw [HX.out]
      rw [hsP, ← HY.out] at hst
      have hsu : lstS l k xn = lstS l k xn := rfl
      obtain ⟨L0, hL0⟩ : ∃ L0, L0 = lstS l k xn := ⟨_, rfl⟩
      rw [← hL0] at hl0 hlb hst
      have HST := hide hst
      have hlb0 := hlb.1
      have hlb1 : L0 ≤ 40 := by omega
      obtain ⟨eb, heb⟩ : ∃ eb, eb = wr.heap.size := ⟨_, rfl⟩
      rw [← heb] at e0 e1 ⊢
      clear hW0 hbw hsP hsu hL0 hlb hst heb HARR HROW HSL HSO B0 HGW
      by_cases hy1 : y = -1
      · have hyb : (y != -1) = false := by simp [hy1]
        have hS : L0 + 1 = stp l k := by
          rw [HST.out, hy1]
          have : stpO l (-1) = 0 := rfl
          rw [this]; omega
        have HSS := hide hS
        clear hy1 hS
        go_upto_region 13 with fail
        obtain ⟨W1, hW1⟩ : ∃ W1, W0.setCell ⟨g, xn, none⟩ (.int .i64 (L0 + 1)) = W1 := ⟨_, rfl⟩
        have HARR1 : Hid (Arr 58 5 W1 w.heap.size g (lstS l (k + 1))) := by
          rw [← hW1, HSS.out]
          exact hide ((HARR0.out.set xn (stp l k)).congr (fun i _ => lstS_succ l k xn HX.out i))
        have HROW1 : Hid (W1.ownsRow (g + 1) 3 1 (.slice oa k ocap) k ((stps l k).map (Value.int .i64))) := by rw [← hW1]; exact hide (own_set11 HROW0.out g xn _ (by omega))
        have B11 : Hid (Below w.heap.size w W1) := by rw [← hW1]; exact hide (B00.out.setCell (p := ⟨g, xn, none⟩) HWG.out _)
        have hlow : ∀ q : Nat, q ≠ g → W1.heap[q]? = W0.heap[q]? := fun q hq => by rw [← hW1]; exact Below.heap_setCell W0 ⟨g, xn, none⟩ _ q hq
        have hz1 : W1.heap.size = W0.heap.size := by rw [← hW1]; simp
        rw [hW1]
        have HLOW := hide hlow
        have HZ1 := hide hz1
        clear hW1 hlow hz1 hl0 hlf e0 e1
        go_wp2_with (first
          | (at_builtin; refine wpList_append_own_at _ rfl _ _ 38 rfl (g + 1) 3 i1 (.int .i64 0) 1 8 Try.underlying38 hi1 hy0 hy1 hy2 rfl (by decide) _ _ _ rfl (HROW1.out.alloc _) ⟨W1.heap.size, 0, none⟩ 1 1 [.int .i64 (L0 + 1)] rfl rfl (cell_one11 _ _ rfl _ _) (by intro u hu; simp at hu; subst hu; rfl) (by unfold maxLen; omega) (by omega) (by simp; have h1 := HZ1.out; have h2 := HGW0.out; omega) ?_)
          | go_in)
        intro v6 w6 hown6 hgrow6 _ hat6
        have hob : ∀ q, (Value.slice oa k ocap).ownBlock = some q → g + 1 ≤ q := fun q hq => (HROW1.out.lt q hq).1
        have hb6 : Below w.heap.size w w6 := (B11.out.alloc B11.out.size _).grown hgrow6 (by simp; have := B11.out.size; omega) (fun q hq => by have h1 := hob q hq; have h2 := HWG.out; omega)
        have harr6 : Arr 58 5 w6 w.heap.size g (lstS l (k + 1)) := arr_grown (HARR1.out.alloc _) hgrow6 (fun e => by have := hob g e; omega)
        have hown7 : w6.ownsRow (g + 1) 3 1 v6 (k + 1) ((stps l (k + 1)).map (Value.int .i64)) := by
          rw [stps_succ, ← HSS.out]
          simpa using hown6
        have H7 := hide hown7
        have HA6 := hide harr6
        clear hown6 hgrow6 hown7 harr6 hat6
        go_wp2
        go_roundw
        case rel => exact ⟨k + 1, by omega, by go_num, H7.out, HA6.out, hb6⟩
        case measure => simp [intOf]; omega
      · have hyb : (y != -1) = true := by simp [hy1]
        have hv4 := HV.out.2.2.2.1
        have hv3 := HV.out.2.2.1
        rw [← HY.out] at hv3 hv4
        obtain ⟨f, hf⟩ : ∃ f : Nat, y = (f : Int) := ⟨y.toNat, by omega⟩
        subst hf
        have hfk : f < k := by omega
        obtain ⟨ob, oo, rfl, hcf⟩ := HSO0.out f (by rw [stps_len]; exact hfk)
        rw [stps_get l k f hfk] at hcf
        have hfb := stp_bd l f
        have hS : max L0 (stp l f) + 1 = stp l k := by
          rw [HST.out]
          have : stpO l (f : Int) = stp l f := by unfold stpO; rw [if_pos (by omega)]; rfl
          rw [this]
        obtain ⟨vf, hvf⟩ : ∃ vf, vf = stp l f := ⟨_, rfl⟩
        rw [← hvf] at hcf hfb hS
        have hfI : (f : Int) < (k : Int) := by omega
        have hf0 : (0 : Int) ≤ (f : Int) := by omega
        have hfb1 : vf ≤ 40 := by omega
        have hfb0 := hfb.1
        obtain ⟨mx, hmx, hmm⟩ : ∃ mx, (if L0 < vf then vf else L0) = mx ∧ max L0 vf = mx := ⟨_, rfl, by split <;> omega⟩
        rw [hmm] at hS
        have hm0 : 0 ≤ mx := by omega
        have hm1 : mx ≤ 40 := by omega
        have HSS := hide hS
        clear hy1 hS hvf hv3 hv4 hfb hmm
        go_upto_region 13 with fail
        obtain ⟨W1, hW1⟩ : ∃ W1, W0.setCell ⟨g, xn, none⟩ (.int .i64 (mx + 1)) = W1 := ⟨_, rfl⟩
        have HARR1 : Hid (Arr 58 5 W1 w.heap.size g (lstS l (k + 1))) := by
          rw [← hW1, HSS.out]
          exact hide ((HARR0.out.set xn (stp l k)).congr (fun i _ => lstS_succ l k xn HX.out i))
        have HROW1 : Hid (W1.ownsRow (g + 1) 3 1 (.slice (some ⟨ob, oo, none⟩) k ocap) k ((stps l k).map (Value.int .i64))) := by rw [← hW1]; exact hide (own_set11 HROW0.out g xn _ (by omega))
        have B11 : Hid (Below w.heap.size w W1) := by rw [← hW1]; exact hide (B00.out.setCell (p := ⟨g, xn, none⟩) HWG.out _)
        have hlow : ∀ q : Nat, q ≠ g → W1.heap[q]? = W0.heap[q]? := fun q hq => by rw [← hW1]; exact Below.heap_setCell W0 ⟨g, xn, none⟩ _ q hq
        have hz1 : W1.heap.size = W0.heap.size := by rw [← hW1]; simp
        rw [hW1]
        have HLOW := hide hlow
        have HZ1 := hide hz1
        clear hW1 hlow hz1 hl0 hlf e0 e1
        go_wp2_with (first
          | (at_builtin; refine wpList_append_own_at _ rfl _ _ 38 rfl (g + 1) 3 i1 (.int .i64 0) 1 8 Try.underlying38 hi1 hy0 hy1 hy2 rfl (by decide) _ _ _ rfl (HROW1.out.alloc _) ⟨W1.heap.size, 0, none⟩ 1 1 [.int .i64 (mx + 1)] rfl rfl (cell_one11 _ _ rfl _ _) (by intro u hu; simp at hu; subst hu; rfl) (by unfold maxLen; omega) (by omega) (by simp; have h1 := HZ1.out; have h2 := HGW0.out; omega) ?_)
          | go_in)
        intro v6 w6 hown6 hgrow6 _ hat6
        have hob : ∀ q, (Value.slice (some ⟨ob, oo, none⟩) k ocap).ownBlock = some q → g + 1 ≤ q := fun q hq => (HROW1.out.lt q hq).1
        have hb6 : Below w.heap.size w w6 := (B11.out.alloc B11.out.size _).grown hgrow6 (by simp; have := B11.out.size; omega) (fun q hq => by have h1 := hob q hq; have h2 := HWG.out; omega)
        have harr6 : Arr 58 5 w6 w.heap.size g (lstS l (k + 1)) := arr_grown (HARR1.out.alloc _) hgrow6 (fun e => by have := hob g e; omega)
        have hown7 : w6.ownsRow (g + 1) 3 1 v6 (k + 1) ((stps l (k + 1)).map (Value.int .i64)) := by
          rw [stps_succ, ← HSS.out]
          simpa using hown6
        have H7 := hide hown7
        have HA6 := hide harr6
        clear hown6 hgrow6 hown7 harr6 hat6
        go_wp2
        go_roundw
        case rel => exact ⟨k + 1, by omega, by go_num, H7.out, HA6.out, hb6⟩
        case measure => simp [intOf]; omega
    · have hltI : ¬ (k : Int) < (n : Int) := by omega
      obtain rfl : k = n := by omega
      have HO := hide (own_baseT hown (show w.heap.size ≤ g + 1 by have := HWG.out; omega))
      have B9 := hide hbel
      clear hown harr hsl hbel
      go_wp2
      go_ret2
      exact ⟨_, by rw [HR.out]; rfl, by rw [HR.out]; simp only [Option.getD_some, stps_len]; exact HO.out, B9.out⟩
end Go.Proofs.Ytkfnejiiancmhah.L11
