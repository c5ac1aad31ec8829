/-
  Rows of samples and pairs of rows that a call owns.
  Contract of the specification's cursor: samples: some samples, at most 41, whatever the bytes; it turns nothing but the cursor itself.
  Contract: impl.GoodSamples tells whether samples are good.
  Contracts: spec.l1In; spec.GoodSamples tells whether samples are good.
  Contracts: spec.l2Deltas, spec.l2Sums: the differences, or the running sums, of at most 40 numbers, in new memory, where none runs over.
  Small facts that the walks of chapter 2 share: the numbers of a chunk by one sample more; two cells that stay while only new memory is laid.
  Contracts: spec.l2Encode and spec.EncodeChunk: of good samples the text of their chunk.
  Contracts of the specification's draws of chapter 2: each returns, within the bounds told, and turns nothing that was there.
-/
import Derived.Test.YtapffbbmofhpoaaDoorBundle2
import Derived.Deep.DeepCutAuto
import Derived.Test.YtapffbbmofhpoaaDoorBundle1
namespace Go.Proofs.YtapffbbmofhpoaaDoor.L1
open Go.RowKit
set_option linter.unusedVariables false

/-- The cells of samples, one behind the other. -/
def flat2 : List (Int × Int) → List Value
  | [] => []
  | p :: l => .int .i64 p.1 :: .int .i64 p.2 :: flat2 l
theorem flat2_append (l m : List (Int × Int)) : flat2 (l ++ m) = flat2 l ++ flat2 m := by
  induction l with
  | nil => rfl
  | cons p l ih => simp [flat2, ih]
theorem flat2_len : ∀ l : List (Int × Int), (flat2 l).length = l.length * 2
  | [] => rfl
  | p :: l => by simp [flat2, flat2_len l]; omega
theorem flat2_get : ∀ (l : List (Int × Int)) (i : Nat), i < l.length → (flat2 l)[i * 2]? = some (.int .i64 (l.getD i (0, 0)).1) ∧ (flat2 l)[i * 2 + 1]? = some (.int .i64 (l.getD i (0, 0)).2)
  | [], i, h => by simp at h
  | p :: l, 0, _ => ⟨rfl, rfl⟩
  | p :: l, i + 1, h => by
    have := flat2_get l i (by simpa using h)
    have e1 : (i + 1) * 2 = i * 2 + 1 + 1 := by omega
    rw [e1]
    simpa only [flat2, List.getElem?_cons_succ, List.getD_cons_succ] using this
theorem own_formS {w : World} {base n : Nat} {v : Value} {l : List (Int × Int)} (h : w.ownsRow base 50 2 v n (flat2 l)) : ∃ a cap, v = .slice a n cap ∧ Sl2 w a l ∧ l.length = n := by
  have hl := h.1
  rw [flat2_len] at hl
  have hl' : l.length = n := by omega
  rcases h.2 with ⟨hv, h0⟩ | ⟨g, cap, cur, hv, _⟩
  · subst h0
    exact ⟨none, 0, hv, fun i hi => by omega, hl'⟩
  · subst hv
    refine ⟨_, cap, rfl, fun i hi => ?_, hl'⟩
    have hf := flat2_get l i hi
    have h1 := h.cells (g := g) rfl (i * 2) _ hf.1
    have h2 := h.cells (g := g) rfl (i * 2 + 1) _ hf.2
    rw [addr_add] at h1 h2
    exact ⟨g, 0, rfl, by simpa using h1, by simpa using h2⟩
theorem own_belowS {w w' : World} {base n : Nat} {v : Value} {ys : List Value} (h : w.ownsRow base 50 2 v n ys) (hb : Below w.heap.size w w') : w'.ownsRow base 50 2 v n ys := by
  refine ⟨h.1, ?_⟩
  rcases h.2 with h0 | ⟨g, cap, cur, rfl, hbg, hg, r⟩
  · exact .inl h0
  · exact .inr ⟨g, cap, cur, rfl, hbg, by rw [hb.block g (Array.getElem?_eq_some_iff.1 hg).1]; exact hg, r⟩
theorem info_smpS : (Tryd.prog.info? 50).map (fun i => (i.zero, i.size, i.bytes)) = some (some (.agg #[.int .i64 0, .int .i64 0]), 2, 16) := by kernel_rfl
/-- Samples that a call hands back, in new memory, and whether there are some. -/
def RetS (w : World) (r : Option (List (Int × Int))) (e : Ending) (w' : World) : Prop :=
  ∃ v, e = .returned (.tuple #[v, .bool r.isSome]) ∧ w'.ownsRow w.heap.size 50 2 v (r.getD []).length (flat2 (r.getD [])) ∧ Below w.heap.size w w'
theorem cell_two_newS (w : World) (p q : Value) (t : TypeId) : ∀ j u, [p, q][j]? = some u → (w.alloc (.cells #[p, q] t)).cell? ((⟨w.heap.size, 0, none⟩ : Addr).add j) = some u := by
  intro j u h
  rw [addr_add]
  match j, h with
  | 0, h => simp at h; subst h; simp
  | 1, h => simp at h; subst h; simp
  | j + 2, h => simp at h
/-- Behind the first append of a round that makes one new row only. -/
theorem two_firstS {B k : Nat} {wr w3 : World} {ot ov v3 : Value} {ts vs : List Int} {x : Int} {o : Obj} (h : Two B wr ot ov k ts vs)
    (hg : (wr.alloc o).grownBy w3 ot.ownBlock) (hown : w3.ownsRow B 3 1 v3 (k + 1) (ts.map (Value.int .i64) ++ [.int .i64 x]))
    (hblk : v3.ownBlock = ot.ownBlock ∨ v3.ownBlock = some (wr.heap.size + 1)) (hB : B ≤ wr.heap.size := by omega) :
    Below B wr w3 ∧ Hid (w3.ownsRow B 3 1 v3 (k + 1) ((ts ++ [x]).map (Value.int .i64)) ∧ w3.ownsRow B 3 1 ov k (vs.map (Value.int .i64)) ∧ ∀ g, v3.ownBlock = some g → ov.ownBlock ≠ some g) := by
  refine ⟨((Below.refl B wr).alloc hB _).grown hg (by simp; omega) (fun g e => (h.1.lt g e).1), by simpa using hown, ?_, ?_⟩
  · refine (h.2.1.alloc _).kept hg ?_
    cases hov : ov.ownBlock with
    | none => exact .inl rfl
    | some g => exact .inr (fun e => h.2.2 g e.symm hov)
  · intro g e1 e2
    rcases hblk with hb | hb
    · exact h.2.2 g (hb ▸ e1) e2
    · rw [hb] at e1
      cases e1
      have := (h.2.1.lt _ e2).2
      omega
theorem own_baseS {w : World} {b c n size : Nat} {e : TypeId} {v : Value} {xs : List Value} (h : w.ownsRow c e size v n xs) (hbc : b ≤ c) : w.ownsRow b e size v n xs := by
  refine ⟨h.1, ?_⟩
  rcases h.2 with h0 | ⟨g, cap, cur, hv, hg, r⟩
  · exact .inl h0
  · exact .inr ⟨g, cap, cur, hv, Nat.le_trans hbc hg, r⟩
theorem sRes_yes {xs : List Int} (h40 : xs.length ≤ 40) (h : OkL xs) (hd : OkL (sm 0 xs)) : sRes xs = some (sm 0 xs) := by
  unfold sRes; rw [if_pos ⟨h40, h, hd⟩]
theorem sRes_no {xs : List Int} (h : ¬ OkL (sm 0 xs)) : sRes xs = none := by
  unfold sRes; rw [if_neg (fun hh => h hh.2.2)]
theorem ofPairs_some {xs : List Int} (h : GoodS (unS (ev xs) (od xs))) : ofPairs xs = some (unS (ev xs) (od xs)) := by unfold ofPairs; rw [if_pos h]
theorem ofPairs_none {xs : List Int} (h : ¬ GoodS (unS (ev xs) (od xs))) : ofPairs xs = none := by unfold ofPairs; rw [if_neg h]
theorem zip_take (l m : List Int) (k : Nat) (h : l.length = m.length) (hk : k < l.length) : (l.zip m).take (k + 1) = (l.zip m).take k ++ [(l.getD k 0, m.getD k 0)] := by
  rw [List.take_succ_eq_append_getElem (by simp; omega)]
  simp [List.getD, List.getElem?_eq_getElem hk, List.getElem?_eq_getElem (show k < m.length by omega)]
theorem sl_base' {w w' : World} {a : Option Addr} {xs : List Int} {B : Nat} (h : Sl w a xs) (hw : w.heap.size = B) (hb : Below B w w') : Sl w' a xs := h.below (by rw [hw]; exact hb)
end Go.Proofs.YtapffbbmofhpoaaDoor.L1

namespace Go.Proofs.YtapffbbmofhpoaaDoor.L1
open Go.RowKit
set_option linter.unusedVariables false

theorem own_grownG {w w' : World} {base n b c : Nat} {t : TypeId} {v : Value} {ys : List Value} (h : w.ownsRow base t c v n ys) (hg : w.grownBy w' (some b)) (hb : b < base) : w'.ownsRow base t c v n ys := by
  refine ⟨h.1, ?_⟩
  rcases h.2 with h0 | ⟨g, cap, cur, rfl, hbg, hgg, r⟩
  · exact .inl h0
  · exact .inr ⟨g, cap, cur, rfl, hbg, by rw [hg.block g (Array.getElem?_eq_some_iff.1 hgg).1 (fun e => by cases e; omega)]; exact hgg, r⟩
theorem grown_set {a w : World} {r : Option Nat} {g i : Nat} {v : Value} (h : a.grownBy w r) (hg : a.heap.size ≤ g) : a.grownBy (w.setCell ⟨g, i, none⟩ v) r := by
  have hb := (Below.refl a.heap.size w).setCell (p := ⟨g, i, none⟩) hg v
  exact ⟨hb.os.trans h.os, hb.tape.trans h.tape, hb.output.trans h.output, Nat.le_trans h.size hb.size, fun k hk hn => (hb.block k hk).trans (h.block k hk hn)⟩
theorem flat2_setD : ∀ (l : List (Int × Int)) (i : Nat) (p : Int × Int), flat2 (l.set i p) = ((flat2 l).set (i * 2) (.int .i64 p.1)).set (i * 2 + 1) (.int .i64 p.2)
  | [], _, _ => rfl
  | q :: l, 0, p => rfl
  | q :: l, i + 1, p => by
    have := flat2_setD l i p
    have e1 : (i + 1) * 2 = i * 2 + 1 + 1 := by omega
    rw [e1]
    simp only [List.set_cons_succ, flat2, this]
/-- Samples as they are drawn: no number is great. -/
def BdS (l : List (Int × Int)) : Prop := ∀ p ∈ l, (-2000000000 ≤ p.1 ∧ p.1 ≤ 2000000000) ∧ -2000000000 ≤ p.2 ∧ p.2 ≤ 2000000000
/-- Some samples that the caller owns. -/
def OwnSmps (w : World) (B : Nat) (v : Value) : Prop := ∃ l : List (Int × Int), l.length ≤ 41 ∧ BdS l ∧ w.ownsRow B 50 2 v l.length (flat2 l)
theorem bdS_set {l : List (Int × Int)} (h : BdS l) (i : Nat) {p : Int × Int} (hp : (-2000000000 ≤ p.1 ∧ p.1 ≤ 2000000000) ∧ -2000000000 ≤ p.2 ∧ p.2 ≤ 2000000000) : BdS (l.set i p) := fun q hq => by
  rcases List.mem_or_eq_of_mem_set hq with h1 | h1
  · exact h q h1
  · rw [h1]; exact hp

set_option maxRecDepth 100000 in
set_option maxHeartbeats 4000000 in
theorem samples_any (b N : Nat) (w : World) (h : Cur w b N) (hN : N ≤ 1000000) :
    Calls Tryd.prog 112 #[.pointer (some ⟨b, 0, none⟩)] w fun e w' => ∃ v, e = .returned v ∧ OwnSmps w' w.heap.size v ∧ Cur w' b (N + 1000) ∧ w.grownBy w' (some b) := by
  have hbw := h.lt
  have HC := hide h
  clear h
  obtain ⟨i1, hi1, hy0, hy1, hy2⟩ := info_parts info_smpS
  go_enter Tryd.func112, Tryd.ntmps112
  go_wp2_with fail
  refine (pick_any b N 8 _ HC.out (by omega) (by omega) (by omega)).mono ?_
  rintro e w1 ⟨x0, rfl, hx0, _, hx8, hc1, hg1⟩
  have hx8' := hx8 (by omega)
  obtain ⟨k0, rfl⟩ : ∃ k0 : Nat, x0 = (k0 : Int) := ⟨x0.toNat, by omega⟩
  have C1 := hide hc1
  have G1 := hide hg1
  clear hc1 hg1 hx8 hx0 HC
  go_wp2_with fail
  refine (one_any b _ 20 _ C1.out (by omega) (by omega) (by omega)).mono ?_
  rintro e w2 ⟨t, rfl, hc2, hg2⟩
  have C2 := hide hc2
  have G2 := hide (grown_trans G1.out hg2)
  clear hc2 hg2 C1 G1
  go_upto_if 10 with fail
  go_cut [4] (fun nv wx => ∃ k : Nat, k ≤ 41 ∧ nv = .int .i64 k ∧ Cur wx b (N + 6) ∧ w.grownBy wx (some b))
  case first =>
    cases t with
    | false =>
      go_wp2_with fail
      go_meet
      exact ⟨k0, by omega, rfl, C2.out.mono (by omega), G2.out⟩
    | true =>
      go_wp2_with fail
      refine (pick_any b _ 3 _ C2.out (by omega) (by omega) (by omega)).mono ?_
      rintro e w3 ⟨x1, rfl, hx1, _, hx3, hc3, hg3⟩
      have hx3' := hx3 (by omega)
      obtain ⟨k1, rfl⟩ : ∃ k1 : Nat, x1 = (k1 : Int) := ⟨x1.toNat, by omega⟩
      have C3 := hide hc3
      have G3 := hide (grown_trans G2.out hg3)
      clear hc3 hg3 hx3
      go_wp2_with fail
      go_meet
      exact ⟨39 + k1, by omega, by congr 1, C3.out, G3.out⟩
  case rest =>
    obtain ⟨k2, hk2, rfl, hc, hg⟩ := hcut
    have C4 := hide hc
    have G4 := hide hg
    clear hc hg C2 G2
    go_wp2_with fail
    refine (pick_any b _ 50 _ C4.out (by omega) (by omega) (by omega)).mono ?_
    rintro e w5 ⟨x5, rfl, hx5, _, hx50, hc5, hg5⟩
    have hx50' := hx50 (by omega)
    have C5 := hide hc5
    have G5 := hide (grown_trans G4.out hg5)
    clear hc5 hg5 C4 G4 hx50
    go_wp2_with fail
    refine (pick_any b _ 100 _ C5.out (by omega) (by omega) (by omega)).mono ?_
    rintro e w6 ⟨x6, rfl, hx6, _, hx100, hc6, hg6⟩
    have hx100' := hx100 (by omega)
    have C6 := hide hc6
    have G6 := hide (grown_trans G5.out hg6)
    clear hc6 hg6 C5 G5 hx100
    go_wp2_with fail
    go_loopw [3, 4, 5, 6] (fun lv nv av vv wr => ∃ (k : Nat) (l : List (Int × Int)) (x y : Int), k + l.length ≤ 41 ∧ nv = .int .i64 k ∧ av = .int .i64 x ∧ vv = .int .i64 y ∧ 0 ≤ x ∧ x ≤ 50 + 300 * (l.length : Int) ∧ -(3 * (l.length : Int)) ≤ y ∧ y ≤ 100 + 1000 * (l.length : Int) ∧ Hid (BdS l) ∧ wr.ownsRow w.heap.size 50 2 lv l.length (flat2 l) ∧ Hid (Cur wr b (N + 10 + 4 * l.length)) ∧ w.grownBy wr (some b)) (fun _ nv _ _ _ => (intOf nv).toNat)
    case atStart => exact ⟨k2, [], x5, x6, by simpa using hk2, rfl, rfl, rfl, hx5, by simp; omega, by simp; omega, by simp; omega, fun p hp => by simp at hp, World.ownsRow_nil _ _ _ _, C6.out, G6.out⟩
    case round =>
      obtain ⟨k, l, x, y, hk, rfl, rfl, rfl, hxl, hxu, hyl, hyu, HBd, hown, HCr, hgr⟩ := hrel
      obtain ⟨nl, hnl⟩ : ∃ nl, nl = l.length := ⟨_, rfl⟩
      rw [← hnl] at hk hxu hyl hyu hown HCr
      have hsz := hgr.size
      have HG := hide hgr
      have HNL := hide hnl.symm
      clear hgr C6 G6 hnl
      by_cases hlt : 0 < k
      · have hltI : (0 : Int) < (k : Int) := by omega
        go_wp2_with (first
          | (at_builtin; refine wpList_append_own _ rfl _ _ 41 rfl w.heap.size 50 i1 (.agg #[.int .i64 0, .int .i64 0]) 2 16 Tryd.underlying41 hi1 hy0 hy1 hy2 rfl (by decide) _ _ _ rfl (hown.alloc _) ⟨wr.heap.size, 0, none⟩ 1 1 [.int .i64 x, .int .i64 y] rfl rfl (cell_two_newS _ _ _ _) (by intro u hu; simp at hu; rcases hu with rfl | rfl <;> rfl) (by unfold maxLen; omega) (by omega) (by simp; omega) ?_)
          | go_in)
        intro v7 w7 hown7 hgrow7 _
        have hb7 : Below w.heap.size wr w7 := below_app hsz hgrow7 (fun g hg => (hown.lt g hg).1)
        have o7 : w7.ownsRow w.heap.size 50 2 v7 (nl + 1) (flat2 (l ++ [(x, y)])) := by rw [flat2_append]; simpa [flat2] using hown7
        have O7 := hide o7
        have C7 := hide (HCr.out.keptBelow hb7 hbw)
        have G7 := hide (grown_then_below HG.out hb7)
        have SA := hide (lit_row w7 #[.int .i64 10, .int .i64 10, .int .i64 10, .int .i64 1, .int .i64 300] [10, 10, 10, 1, 300] rfl)
        have CA := hide (C7.out.alloc (.cells #[.int .i64 10, .int .i64 10, .int .i64 10, .int .i64 1, .int .i64 300] 3))
        have hbw7 := C7.out.lt
        clear hown7 o7 hgrow7 hown hb7 HG HCr
        go_wp2_with fail
        refine (among_any b _ w7.heap.size 5 5 [10, 10, 10, 1, 300] _ CA.out (by omega) rfl (by omega) (by omega) (by omega) SA.out).mono ?_
        rintro e w8 ⟨j8, hj8, rfl, hc8, hg8⟩
        have hz8 := (by decide : ∀ j, j < 5 → (1 : Int) ≤ ([10, 10, 10, 1, 300] : List Int).getD j 0 ∧ ([10, 10, 10, 1, 300] : List Int).getD j 0 ≤ 300) j8 hj8
        obtain ⟨z8, hze⟩ : ∃ z, z = ([10, 10, 10, 1, 300] : List Int).getD j8 0 := ⟨_, rfl⟩
        rw [← hze] at hz8 ⊢
        have hg78 := grown_trans (grown_alloc w7 (.cells #[.int .i64 10, .int .i64 10, .int .i64 10, .int .i64 1, .int .i64 300] 3) b) hg8
        have O8 := hide (own_grownG O7.out hg78 hbw)
        have C8 := hide hc8
        have G8 := hide (grown_trans G7.out hg78)
        have SB := hide (lit_row w8 #[.int .i64 0, .int .i64 0, .int .i64 1, .int .i64 5, .int .i64 (-3), .int .i64 1000] [0, 0, 1, 5, -3, 1000] rfl)
        have CB := hide (C8.out.alloc (.cells #[.int .i64 0, .int .i64 0, .int .i64 1, .int .i64 5, .int .i64 (-3), .int .i64 1000] 3))
        have hbw8 := C8.out.lt
        clear hze hc8 hg8 hg78 O7 C7 G7 SA CA hj8 hbw7
        go_wp2_with fail
        refine (among_any b _ w8.heap.size 6 6 [0, 0, 1, 5, -3, 1000] _ CB.out (by omega) rfl (by omega) (by omega) (by omega) SB.out).mono ?_
        rintro e w9 ⟨j9, hj9, rfl, hc9, hg9⟩
        have hz9 := (by decide : ∀ j, j < 6 → (-3 : Int) ≤ ([0, 0, 1, 5, -3, 1000] : List Int).getD j 0 ∧ ([0, 0, 1, 5, -3, 1000] : List Int).getD j 0 ≤ 1000) j9 hj9
        obtain ⟨z9, hze⟩ : ∃ z, z = ([0, 0, 1, 5, -3, 1000] : List Int).getD j9 0 := ⟨_, rfl⟩
        rw [← hze] at hz9 ⊢
        have hg89 := grown_trans (grown_alloc w8 (.cells #[.int .i64 0, .int .i64 0, .int .i64 1, .int .i64 5, .int .i64 (-3), .int .i64 1000] 3) b) hg9
        have O9 := hide (own_grownG O8.out hg89 hbw)
        have C9 := hide hc9
        have G9 := hide (grown_trans G8.out hg89)
        have B9 : Hid (BdS (l ++ [(x, y)])) := fun p hp => by
          rcases List.mem_append.1 hp with h1 | h1
          · exact HBd.out p h1
          · rw [List.mem_singleton] at h1; subst h1; exact ⟨⟨by omega, by omega⟩, by omega, by omega⟩
        have HL : Hid ((l ++ [(x, y)]).length = nl + 1) := by rw [List.length_append, HNL.out]; rfl
        clear hze hc9 hg9 hg89 O8 C8 G8 SB CB hj9 hbw8
        go_wp2_with fail
        go_roundw
        case rel => exact ⟨k - 1, l ++ [(x, y)], x + z8, y + z9, by rw [HL.out]; omega, by congr 1; omega, rfl, rfl, by omega, by rw [HL.out]; omega, by rw [HL.out]; omega, by rw [HL.out]; omega, B9, by rw [HL.out]; exact O9.out, by rw [HL.out]; exact C9.out.mono (by omega), G9.out⟩
        case measure => simp [intOf]; omega
      · have hltI : ¬ (0 : Int) < (k : Int) := by omega
        have HO := hide hown
        have hl41 : nl ≤ 41 := by omega
        rcases hown.2 with ⟨hv, h0⟩ | ⟨g, cap, cur, hv, hgb, hgh, _⟩
        · subst hv
          subst h0
          clear hown
          go_wp2_with fail
          go_ret
          exact ⟨_, rfl, ⟨l, by rw [HNL.out]; omega, HBd.out, by rw [HNL.out]; exact HO.out⟩, HCr.out.mono (by omega), HG.out⟩
        · subst hv
          by_cases hl0 : 0 < (nl : Int)
          · clear hown hgh
            go_wp2_with fail
            refine (one_any b _ 20 _ HCr.out (by omega) (by omega) (by omega)).mono ?_
            rintro e w7 ⟨t7, rfl, hc7, hg7⟩
            have O7 := hide (own_grownG HO.out hg7 hbw)
            have C7 := hide hc7
            have G7 := hide (grown_trans HG.out hg7)
            clear hc7 hg7 HO HCr HG
            cases t7 with
            | false =>
              go_wp2_with fail
              go_ret
              exact ⟨_, rfl, ⟨l, by rw [HNL.out]; omega, HBd.out, by rw [HNL.out]; exact O7.out⟩, C7.out.mono (by omega), G7.out⟩
            | true =>
              go_wp2_with fail
              refine (pick_any b _ _ _ C7.out (by omega) (by omega) (by omega)).mono ?_
              rintro e w8 ⟨x8, rfl, hx8, _, hx8n, hc8, hg8⟩
              have hx8n' := hx8n (by omega)
              obtain ⟨p8, rfl⟩ : ∃ p : Nat, x8 = (p : Int) := ⟨x8.toNat, by omega⟩
              have O8 := hide (own_grownG O7.out hg8 hbw)
              have C8 := hide hc8
              have G8 := hide (grown_trans G7.out hg8)
              have SA := hide (lit_row w8 #[.int .i64 (-1), .int .i64 0, .int .i64 1000000000, .int .i64 1000000001] [-1, 0, 1000000000, 1000000001] rfl)
              have CA := hide (C8.out.alloc (.cells #[.int .i64 (-1), .int .i64 0, .int .i64 1000000000, .int .i64 1000000001] 3))
              have hbw8 := C8.out.lt
              clear hc8 hg8 hx8n O7 C7 G7
              go_wp2_with fail
              refine (among_any b _ w8.heap.size 4 4 [-1, 0, 1000000000, 1000000001] _ CA.out (by omega) rfl (by omega) (by omega) (by omega) SA.out).mono ?_
              rintro e w9 ⟨j9, hj9, rfl, hc9, hg9⟩
              have hz9 := (by decide : ∀ j, j < 4 → (-1 : Int) ≤ ([-1, 0, 1000000000, 1000000001] : List Int).getD j 0 ∧ ([-1, 0, 1000000000, 1000000001] : List Int).getD j 0 ≤ 1000000001) j9 hj9
              obtain ⟨z9, hze⟩ : ∃ z, z = ([-1, 0, 1000000000, 1000000001] : List Int).getD j9 0 := ⟨_, rfl⟩
              rw [← hze] at hz9 ⊢
              have hg89 := grown_trans (grown_alloc w8 (.cells #[.int .i64 (-1), .int .i64 0, .int .i64 1000000000, .int .i64 1000000001] 3) b) hg9
              have O9 := hide (own_grownG O8.out hg89 hbw)
              have C9 := hide hc9
              have G9 := hide (grown_trans G8.out hg89)
              have SB := hide (lit_row w9 #[.int .i64 1000000000, .int .i64 (-1000000000), .int .i64 1000000001] [1000000000, -1000000000, 1000000001] rfl)
              have CB := hide (C9.out.alloc (.cells #[.int .i64 1000000000, .int .i64 (-1000000000), .int .i64 1000000001] 3))
              have hbw9 := C9.out.lt
              clear hze hc9 hg9 hg89 O8 C8 G8 SA CA hj9 hbw8
              go_wp2_with fail
              refine (among_any b _ w9.heap.size 3 3 [1000000000, -1000000000, 1000000001] _ CB.out (by omega) rfl (by omega) (by omega) (by omega) SB.out).mono ?_
              rintro e w10 ⟨j10, hj10, rfl, hc10, hg10⟩
              have hz10 := (by decide : ∀ j, j < 3 → (-1000000000 : Int) ≤ ([1000000000, -1000000000, 1000000001] : List Int).getD j 0 ∧ ([1000000000, -1000000000, 1000000001] : List Int).getD j 0 ≤ 1000000001) j10 hj10
              obtain ⟨z10, hze⟩ : ∃ z, z = ([1000000000, -1000000000, 1000000001] : List Int).getD j10 0 := ⟨_, rfl⟩
              rw [← hze] at hz10 ⊢
              have hg910 := grown_trans (grown_alloc w9 (.cells #[.int .i64 1000000000, .int .i64 (-1000000000), .int .i64 1000000001] 3) b) hg10
              have hown := own_grownG O9.out hg910 hbw
              have C10 := hide hc10
              have G10 := hide (grown_trans G9.out hg910)
              have hlf : (flat2 l).length = nl * 2 := by rw [flat2_len, HNL.out]
              have hp8 : p8 < nl := by omega
              have hcl := hown.cellAt (p8 * 2) (by omega)
              have hcl1 := hown.cellAt (p8 * 2 + 1) (by omega)
              have hfr := hown.frozenAt (p8 * 2)
              have hfr1 := hown.frozenAt (p8 * 2 + 1)
              obtain ⟨u, hu⟩ : ∃ u, w10.cell? ⟨g, p8 * 2, none⟩ = some u := ⟨_, hcl.trans (List.getElem?_eq_getElem (by omega))⟩
              obtain ⟨u1, hu1⟩ : ∃ u, w10.cell? ⟨g, p8 * 2 + 1, none⟩ = some u := ⟨_, hcl1.trans (List.getElem?_eq_getElem (by omega))⟩
              have hst := (hown.stored (p8 * 2) (.int .i64 z9)).1.stored (p8 * 2 + 1) (.int .i64 z10)
              have hgg : b < g := by omega
              have O11 : Hid (OwnSmps ((w10.setCell ⟨g, p8 * 2, none⟩ (.int .i64 z9)).setCell ⟨g, p8 * 2 + 1, none⟩ (.int .i64 z10)) w.heap.size (.slice (some ⟨g, 0, none⟩) nl cap)) :=
                ⟨l.set p8 (z9, z10), by rw [List.length_set, HNL.out]; omega, bdS_set HBd.out p8 ⟨⟨by omega, by omega⟩, by omega, by omega⟩, by rw [List.length_set, HNL.out, flat2_setD]; exact hst.1⟩
              have C11 : Hid (Cur ((w10.setCell ⟨g, p8 * 2, none⟩ (.int .i64 z9)).setCell ⟨g, p8 * 2 + 1, none⟩ (.int .i64 z10)) b (N + 1000)) := (C10.out.kept fun k hk => (((Below.refl g w10).setCell (p := ⟨g, p8 * 2, none⟩) (Nat.le_refl _) (.int .i64 z9)).setCell (p := ⟨g, p8 * 2 + 1, none⟩) (Nat.le_refl _) (.int .i64 z10)).block k (by omega)).mono (by omega)
              have G11 := hide (grown_set (i := p8 * 2 + 1) (v := .int .i64 z10) (grown_set (i := p8 * 2) (v := .int .i64 z9) G10.out hgb) hgb)
              have hltp : (p8 : Int) < (nl : Int) := by omega
              clear hze hc10 hg10 hg910 hown hcl hcl1 hst hlf O9 C9 G9 SB CB hj10 hbw9 C10 G10
              go_wp2_with fail
              go_ret
              exact ⟨_, rfl, O11.out, C11.out, G11.out⟩
          · clear hown hgh
            go_wp2_with fail
            go_ret
            exact ⟨_, rfl, ⟨l, by rw [HNL.out]; omega, HBd.out, by rw [HNL.out]; exact HO.out⟩, HCr.out.mono (by omega), HG.out⟩
end Go.Proofs.YtapffbbmofhpoaaDoor.L1

namespace Go.Proofs.YtapffbbmofhpoaaDoor.L1
open Go.RowKit
set_option linter.unusedVariables false

theorem within_same (x y : Int) (w : World) (h : okS (x, y)) :
    Calls Tryd.prog 101 #[.agg #[.int .i64 x, .int .i64 y]] w fun e w' => e = .returned (.agg #[.int .i64 x, .int .i64 y]) ∧ Below w.heap.size w w' := by
  have c := withinLimits_any x y w
  unfold okS at h
  simp only at h
  rw [(lim_iff 0 1000000000 x (by omega)).2 ⟨h.1, h.2.1⟩, (lim_iff (-1000000000) 1000000000 y (by omega)).2 ⟨h.2.2.1, h.2.2.2⟩] at c
  exact c
theorem within_other (x y : Int) (w : World) (h : ¬ okS (x, y)) : ∃ x' y', ¬ (x = x' ∧ y = y') ∧ 
    Calls Tryd.prog 101 #[.agg #[.int .i64 x, .int .i64 y]] w fun e w' => e = .returned (.agg #[.int .i64 x', .int .i64 y']) ∧ Below w.heap.size w w' := by
  refine ⟨_, _, ?_, withinLimits_any x y w⟩
  intro hh
  apply h
  have h1 := (lim_iff 0 1000000000 x (by omega)).1 hh.1.symm
  have h2 := (lim_iff (-1000000000) 1000000000 y (by omega)).1 hh.2.symm
  exact ⟨h1.1, h1.2, h2.1, h2.2⟩

/-- What a round of GoodSamples reads stays while only new memory is laid. -/
theorem keep2 {wa wb : World} {X N : Nat} {vx vy : Value} {W : World} (h : wa.cell? ⟨X, 0, none⟩ = some vx ∧ wa.cell? ⟨X, 1, none⟩ = some vy ∧ Below N W wa) (hb : Below wa.heap.size wa wb) (hN : N ≤ W.heap.size) :
    wb.cell? ⟨X, 0, none⟩ = some vx ∧ wb.cell? ⟨X, 1, none⟩ = some vy ∧ Below N W wb := by
  obtain ⟨h1, h2, h3⟩ := h
  exact ⟨(hb.cell (p := ⟨X, 0, none⟩) (blk_lt h1)).trans h1, (hb.cell (p := ⟨X, 1, none⟩) (blk_lt h2)).trans h2, h3.trans (hb.mono (Nat.le_trans hN h3.size))⟩

theorem bool_no {b : Bool} {p : Prop} (h : b = true ↔ p) (hp : ¬ p) : b = false := by
  cases b with
  | false => rfl
  | true => exact absurd (h.1 rfl) hp
theorem keep3 {wa wb : World} {X N B O : Nat} {vx vy vp : Value} {W : World} (h : wa.cell? ⟨X, 0, none⟩ = some vx ∧ wa.cell? ⟨X, 1, none⟩ = some vy ∧ wa.cell? ⟨B, O, none⟩ = some vp ∧ Below N W wa) (hb : Below wa.heap.size wa wb) (hN : N ≤ W.heap.size) :
    wb.cell? ⟨X, 0, none⟩ = some vx ∧ wb.cell? ⟨X, 1, none⟩ = some vy ∧ wb.cell? ⟨B, O, none⟩ = some vp ∧ Below N W wb := by
  obtain ⟨h1, h2, h4, h3⟩ := h
  exact ⟨(hb.cell (p := ⟨X, 0, none⟩) (blk_lt h1)).trans h1, (hb.cell (p := ⟨X, 1, none⟩) (blk_lt h2)).trans h2, (hb.cell (p := ⟨B, O, none⟩) (blk_lt h4)).trans h4, h3.trans (hb.mono (Nat.le_trans hN h3.size))⟩

set_option maxRecDepth 100000 in
set_option maxHeartbeats 2000000 in
theorem goodSamples_any (a : Option Addr) (l : List (Int × Int)) (n cap : Nat) (w : World) (hn : l.length = n) (hs : Sl2 w a l) (hn2 : n ≤ 1048576) (bb : Bool) (hbb : bb = true ↔ GoodS l) :
    Calls Tryd.prog 39 #[.slice a n cap] w fun e w' => e = .returned (.bool bb) ∧ Below w.heap.size w w' := by
  have HBB := hide hbb
  clear hbb
  by_cases h40 : 40 < (n : Int)
  · have hno : ¬ GoodS l := fun h => by have := h.1; omega
    have HNO := hide hno
    clear hs hn hno
    go_enter Tryd.func39, Tryd.ntmps39
    go_wp2
    go_ret
    exact ⟨by rw [bool_no HBB.out HNO.out]; rfl, Below.refl _ _⟩
  have HS := hide hs
  have HN := hide hn
  clear hs hn
  go_enter Tryd.func39, Tryd.ntmps39
  go_wp2
  go_loopw [10] (fun i wr => ∃ k : Nat, k ≤ n ∧ i = .int .i64 k ∧ Hid (∀ j, j < k → okS (l.getD j (0, 0)) ∧ (0 < j → (l.getD (j - 1) (0, 0)).1 < (l.getD j (0, 0)).1)) ∧ Below w.heap.size w wr) (fun i _ => n - (intOf i).toNat)
  case atStart => exact ⟨0, Nat.zero_le _, rfl, fun j hj => absurd hj (Nat.not_lt_zero _), Below.refl _ _⟩
  case round =>
    obtain ⟨k, hk, rfl, HJ, hbel⟩ := hrel
    by_cases hlt : k < n
    · obtain ⟨b, off, rfl, hc0, hd0⟩ := HS.out k (by rw [HN.out]; exact hlt)
      have hc : wr.cell? ⟨b, off + k * 2, none⟩ = some (.int .i64 (l.getD k (0, 0)).1) := by
        rw [hbel.cell (p := ⟨b, off + k * 2, none⟩) (blk_lt hc0)]; exact hc0
      have hd : wr.cell? ⟨b, off + k * 2 + 1, none⟩ = some (.int .i64 (l.getD k (0, 0)).2) := by
        rw [hbel.cell (p := ⟨b, off + k * 2 + 1, none⟩) (blk_lt hd0)]; exact hd0
      have hltI : (k : Int) < (n : Int) := by omega
      obtain ⟨x, hx⟩ : ∃ x, x = (l.getD k (0, 0)).1 := ⟨_, rfl⟩
      obtain ⟨y, hy⟩ : ∃ y, y = (l.getD k (0, 0)).2 := ⟨_, rfl⟩
      rw [← hx] at hc
      rw [← hy] at hd
      have hxy : l.getD k (0, 0) = (x, y) := by rw [hx, hy]
      have HXY := hide hxy
      clear hc0 hd0 hx hy hxy
      have hprev : 0 < k → ∃ px, Hid ((l.getD (k - 1) (0, 0)).1 = px) ∧ wr.cell? ⟨b, off + (k - 1) * 2, none⟩ = some (.int .i64 px) := fun h0 => by
        obtain ⟨b', off', ha, hp, _⟩ := HS.out (k - 1) (by rw [HN.out]; omega)
        simp only [Option.some.injEq, Addr.mk.injEq, and_true] at ha
        obtain ⟨rfl, rfl⟩ := ha
        exact ⟨_, rfl, by rw [hbel.cell (p := ⟨b, off + (k - 1) * 2, none⟩) (blk_lt hp)]; exact hp⟩
      have HPREV := hide hprev
      clear hprev
      go_wp2
      obtain ⟨W0, hW0⟩ : ∃ W0, wr.alloc (.cells #[.int .i64 x, .int .i64 y] 50) = W0 := ⟨_, rfl⟩
      have c0 : W0.cell? ⟨wr.heap.size, 0, none⟩ = some (.int .i64 x) := by rw [← hW0]; simp
      have c1 : W0.cell? ⟨wr.heap.size, 1, none⟩ = some (.int .i64 y) := by rw [← hW0]; simp
      have hb0 : Below wr.heap.size wr W0 := by rw [← hW0]; exact (Below.refl _ _).alloc (Nat.le_refl _) _
      rw [hW0]
      clear hW0
      by_cases hok : okS (x, y)
      · have HOK := hide hok
        have WL := hide (fun w => within_same x y w hok)
        clear hok
        cases k with
        | zero =>
          clear HPREV
          refine wp_region_held_drew (S := (fun wx => wx.cell? ⟨wr.heap.size, 0, none⟩ = some (.int .i64 x) ∧ wx.cell? ⟨wr.heap.size, 1, none⟩ = some (.int .i64 y) ∧ Below W0.heap.size W0 wx)) (by kernel_rfl) ⟨c0, c1, (Below.refl _ _).drew⟩ (fun hHeld => ?_)
          refine wpAnyH_take (i := 0) (v := ?v1) rfl (by kernel_rfl) (by kernel_rfl) (by kernel_rfl) (fun _ _ _ h => h) (Or.inl ⟨by rfl, ?y1⟩) (by assumption) ?r1
          case y1 => (intro w hSw; (try dsimp only at hSw); go_simp; try (with_reducible rfl))
          simp only [List.getElem_toArray, List.getElem_cons_zero, Act.put, List.setIfInBounds_toArray, List.set_cons_zero, List.set_cons_succ]
          refine wpAnyH_take (i := 1) (v := ?v2) rfl (by kernel_rfl) (by kernel_rfl) (by kernel_rfl) (fun _ _ _ h => h) (Or.inl ⟨by rfl, ?y2⟩) (by assumption) ?r2
          case y2 => (intro w hSw; (try dsimp only at hSw); go_simp; try (with_reducible rfl))
          simp only [List.getElem_toArray, List.getElem_cons_succ, List.getElem_cons_zero, Act.put, List.setIfInBounds_toArray, List.set_cons_zero, List.set_cons_succ]
          refine wpAnyH_ready (rs := [2]) (by kernel_rfl) (by simp) ?_
          refine AllReadyH.cons rfl (fun K hK => ?_) AllReadyH.nil
          simp only [List.getElem_toArray, List.getElem_cons_succ, List.getElem_cons_zero]
          go_simp
          go_at_call 101
          refine (WL.out _).mono ?_
          rintro e w1 ⟨rfl, hb⟩
          dsimp only
          refine hK.out _ _ ?_ (fun hHeld => ?_)
          · exact keep2 (by assumption) hb (Nat.le_refl _)
          clear hK K
          try simp only [Act.put, List.setIfInBounds_toArray, List.set_cons_zero, List.set_cons_succ]
          refine wpAnyH_take (i := 3) (v := ?v3) rfl (by kernel_rfl) (by kernel_rfl) (by kernel_rfl) (fun _ _ _ h => h) (Or.inl ⟨by rfl, ?y3⟩) (by assumption) ?r3
          case y3 => (intro w hSw; (try dsimp only at hSw); go_simp; try (with_reducible rfl))
          simp only [List.getElem_toArray, List.getElem_cons_succ, List.getElem_cons_zero, Act.put, List.setIfInBounds_toArray, List.set_cons_zero, List.set_cons_succ]
          refine wpAnyH_take (i := 4) (v := ?v4) rfl (by kernel_rfl) (by kernel_rfl) (by kernel_rfl) (fun _ _ _ h => h) (Or.inl ⟨by rfl, ?y4⟩) (by assumption) ?r4
          case y4 => (intro w hSw; (try dsimp only at hSw); go_simp; try (with_reducible rfl))
          simp only [List.getElem_toArray, List.getElem_cons_succ, List.getElem_cons_zero, Act.put, List.setIfInBounds_toArray, List.set_cons_zero, List.set_cons_succ]
          refine wpAnyH_take (i := 5) (v := ?v5) rfl (by kernel_rfl) (by kernel_rfl) (by kernel_rfl) (fun _ _ _ h => h) (Or.inl ⟨by rfl, ?y5⟩) (by assumption) ?r5
          case y5 => (intro w hSw; (try dsimp only at hSw); go_simp; try (with_reducible rfl))
          simp only [List.getElem_toArray, List.getElem_cons_succ, List.getElem_cons_zero, Act.put, List.setIfInBounds_toArray, List.set_cons_zero, List.set_cons_succ]
          refine wpAnyH_take (i := 6) (v := ?v6) rfl (by kernel_rfl) (by kernel_rfl) (by kernel_rfl) (fun _ _ _ h => h) (Or.inl ⟨by rfl, ?y6⟩) (by assumption) ?r6
          case y6 => (intro w hSw; (try dsimp only at hSw); go_simp; try (with_reducible rfl))
          simp only [List.getElem_toArray, List.getElem_cons_succ, List.getElem_cons_zero, Act.put, List.setIfInBounds_toArray, List.set_cons_zero, List.set_cons_succ]
          refine wpAnyH_take (i := 7) (v := ?v7) rfl (by kernel_rfl) (by kernel_rfl) (by kernel_rfl) (fun _ _ _ h => h) (Or.inl ⟨by rfl, ?y7⟩) (by assumption) ?r7
          case y7 => (intro w hSw; (try dsimp only at hSw); go_simp; try (with_reducible rfl))
          simp only [List.getElem_toArray, List.getElem_cons_succ, List.getElem_cons_zero, Act.put, List.setIfInBounds_toArray, List.set_cons_zero, List.set_cons_succ]
          refine wpAnyH_take (i := 8) (v := undef) rfl (by kernel_rfl) (by kernel_rfl) (by kernel_rfl) (fun _ _ _ h => h) (Or.inr ⟨by rfl, rfl⟩) (by assumption) ?_
          simp only [List.getElem_toArray, List.getElem_cons_succ, List.getElem_cons_zero, Act.put, List.setIfInBounds_toArray, List.set_cons_zero, List.set_cons_succ]
          refine wpAnyH_take (i := 9) (v := undef) rfl (by kernel_rfl) (by kernel_rfl) (by kernel_rfl) (fun _ _ _ h => h) (Or.inr ⟨by rfl, rfl⟩) (by assumption) ?_
          simp only [List.getElem_toArray, List.getElem_cons_succ, List.getElem_cons_zero, Act.put, List.setIfInBounds_toArray, List.set_cons_zero, List.set_cons_succ]
          refine wpAnyH_take (i := 10) (v := undef) rfl (by kernel_rfl) (by kernel_rfl) (by kernel_rfl) (fun _ _ _ h => h) (Or.inr ⟨by rfl, rfl⟩) (by assumption) ?_
          simp only [List.getElem_toArray, List.getElem_cons_succ, List.getElem_cons_zero, Act.put, List.setIfInBounds_toArray, List.set_cons_zero, List.set_cons_succ]
          refine wpAnyH_take (i := 11) (v := undef) rfl (by kernel_rfl) (by kernel_rfl) (by kernel_rfl) (fun _ _ _ h => h) (Or.inr ⟨by rfl, rfl⟩) (by assumption) ?_
          simp only [List.getElem_toArray, List.getElem_cons_succ, List.getElem_cons_zero, Act.put, List.setIfInBounds_toArray, List.set_cons_zero, List.set_cons_succ]
          refine wpAnyH_take (i := 12) (v := undef) rfl (by kernel_rfl) (by kernel_rfl) (by kernel_rfl) (fun _ _ _ h => h) (Or.inr ⟨by rfl, rfl⟩) (by assumption) ?_
          simp only [List.getElem_toArray, List.getElem_cons_succ, List.getElem_cons_zero, Act.put, List.setIfInBounds_toArray, List.set_cons_zero, List.set_cons_succ]
          refine wpAnyH_take (i := 13) (v := undef) rfl (by kernel_rfl) (by kernel_rfl) (by kernel_rfl) (fun _ _ _ h => h) (Or.inr ⟨by rfl, rfl⟩) (by assumption) ?_
          simp only [List.getElem_toArray, List.getElem_cons_succ, List.getElem_cons_zero, Act.put, List.setIfInBounds_toArray, List.set_cons_zero, List.set_cons_succ]
          refine wpAnyH_take (i := 14) (v := undef) rfl (by kernel_rfl) (by kernel_rfl) (by kernel_rfl) (fun _ _ _ h => h) (Or.inr ⟨by rfl, rfl⟩) (by assumption) ?_
          simp only [List.getElem_toArray, List.getElem_cons_succ, List.getElem_cons_zero, Act.put, List.setIfInBounds_toArray, List.set_cons_zero, List.set_cons_succ]
          refine wpAnyH_take (i := 15) (v := undef) rfl (by kernel_rfl) (by kernel_rfl) (by kernel_rfl) (fun _ _ _ h => h) (Or.inr ⟨by rfl, rfl⟩) (by assumption) ?_
          simp only [List.getElem_toArray, List.getElem_cons_succ, List.getElem_cons_zero, Act.put, List.setIfInBounds_toArray, List.set_cons_zero, List.set_cons_succ]
          refine wpAnyH_take (i := 16) (v := undef) rfl (by kernel_rfl) (by kernel_rfl) (by kernel_rfl) (fun _ _ _ h => h) (Or.inr ⟨by rfl, rfl⟩) (by assumption) ?_
          simp only [List.getElem_toArray, List.getElem_cons_succ, List.getElem_cons_zero, Act.put, List.setIfInBounds_toArray, List.set_cons_zero, List.set_cons_succ]
          refine wpAnyH_take (i := 17) (v := ?v17) rfl (by kernel_rfl) (by kernel_rfl) (by kernel_rfl) (fun _ _ _ h => h) (Or.inl ⟨by rfl, ?y17⟩) (by assumption) ?r17
          case y17 => (intro w hSw; (try dsimp only at hSw); go_simp; try (with_reducible rfl))
          simp only [List.getElem_toArray, List.getElem_cons_succ, List.getElem_cons_zero, Act.put, List.setIfInBounds_toArray, List.set_cons_zero, List.set_cons_succ]
          refine wpAnyH_take (i := 18) (v := ?v18) rfl (by kernel_rfl) (by kernel_rfl) (by kernel_rfl) (fun _ _ _ h => h) (Or.inl ⟨by rfl, ?y18⟩) (by assumption) ?r18
          case y18 => (intro w hSw; (try dsimp only at hSw); go_simp; try (with_reducible rfl))
          simp only [List.getElem_toArray, List.getElem_cons_succ, List.getElem_cons_zero, Act.put, List.setIfInBounds_toArray, List.set_cons_zero, List.set_cons_succ]
          refine wpAnyH_done (by kernel_rfl) ?_ _
          have B1 := hide ((hbel.trans (hb0.mono hbel.size)).trans (hHeld.2.2.mono (Nat.le_trans hbel.size hb0.size)))
          clear hHeld
          go_wp2
          go_roundw
          case rel =>
            refine ⟨0 + 1, by omega, rfl, ?_, B1.out⟩
            intro j hj
            obtain rfl : j = 0 := by omega
            rw [HXY.out]
            exact ⟨HOK.out, fun h => absurd h (Nat.lt_irrefl _)⟩
          case measure => simp [intOf]; omega
        | succ j =>
          obtain ⟨px, HPX, hpc⟩ := HPREV.out (by omega)
          have e1 : j + 1 - 1 = j := by omega
          rw [e1] at HPX hpc
          have c2 : W0.cell? ⟨b, off + j * 2, none⟩ = some (.int .i64 px) := by rw [hb0.cell (p := ⟨b, off + j * 2, none⟩) (blk_lt hpc)]; exact hpc
          have hjI : (j : Int) < (n : Int) := by omega
          have hj0 : (0 : Int) ≤ (j : Int) := by omega
          have hwj : IntKind.i64.wrap (j : Int) = (j : Int) := by
            simp only [IntKind.wrap, IntKind.bits, IntKind.signed]
            simp
            omega
          have hjp : (0 : Int) < (j : Int) + 1 := by omega
          clear HPREV e1 hpc
          by_cases hle : x ≤ px
          · refine wp_region_held_drew (S := (fun wx => wx.cell? ⟨wr.heap.size, 0, none⟩ = some (.int .i64 x) ∧ wx.cell? ⟨wr.heap.size, 1, none⟩ = some (.int .i64 y) ∧ wx.cell? ⟨b, off + j * 2, none⟩ = some (.int .i64 px) ∧ Below W0.heap.size W0 wx)) (by kernel_rfl) ⟨c0, c1, c2, (Below.refl _ _).drew⟩ (fun hHeld => ?_)
            refine wpAnyH_take (i := 0) (v := ?v19) rfl (by kernel_rfl) (by kernel_rfl) (by kernel_rfl) (fun _ _ _ h => h) (Or.inl ⟨by rfl, ?y19⟩) (by assumption) ?r19
            case y19 => (intro w hSw; (try dsimp only at hSw); go_simp; try (with_reducible rfl))
            simp only [List.getElem_toArray, List.getElem_cons_zero, Act.put, List.setIfInBounds_toArray, List.set_cons_zero, List.set_cons_succ]
            refine wpAnyH_take (i := 1) (v := ?v20) rfl (by kernel_rfl) (by kernel_rfl) (by kernel_rfl) (fun _ _ _ h => h) (Or.inl ⟨by rfl, ?y20⟩) (by assumption) ?r20
            case y20 => (intro w hSw; (try dsimp only at hSw); go_simp; try (with_reducible rfl))
            simp only [List.getElem_toArray, List.getElem_cons_succ, List.getElem_cons_zero, Act.put, List.setIfInBounds_toArray, List.set_cons_zero, List.set_cons_succ]
            refine wpAnyH_ready (rs := [2]) (by kernel_rfl) (by simp) ?_
            refine AllReadyH.cons rfl (fun K hK => ?_) AllReadyH.nil
            simp only [List.getElem_toArray, List.getElem_cons_succ, List.getElem_cons_zero]
            go_simp
            go_at_call 101
            refine (WL.out _).mono ?_
            rintro e w1 ⟨rfl, hb⟩
            dsimp only
            refine hK.out _ _ ?_ (fun hHeld => ?_)
            · exact keep3 (by assumption) hb (Nat.le_refl _)
            clear hK K
            try simp only [Act.put, List.setIfInBounds_toArray, List.set_cons_zero, List.set_cons_succ]
            refine wpAnyH_take (i := 3) (v := ?v21) rfl (by kernel_rfl) (by kernel_rfl) (by kernel_rfl) (fun _ _ _ h => h) (Or.inl ⟨by rfl, ?y21⟩) (by assumption) ?r21
            case y21 => (intro w hSw; (try dsimp only at hSw); go_simp; try (with_reducible rfl))
            simp only [List.getElem_toArray, List.getElem_cons_succ, List.getElem_cons_zero, Act.put, List.setIfInBounds_toArray, List.set_cons_zero, List.set_cons_succ]
            refine wpAnyH_take (i := 4) (v := ?v22) rfl (by kernel_rfl) (by kernel_rfl) (by kernel_rfl) (fun _ _ _ h => h) (Or.inl ⟨by rfl, ?y22⟩) (by assumption) ?r22
            case y22 => (intro w hSw; (try dsimp only at hSw); go_simp; try (with_reducible rfl))
            simp only [List.getElem_toArray, List.getElem_cons_succ, List.getElem_cons_zero, Act.put, List.setIfInBounds_toArray, List.set_cons_zero, List.set_cons_succ]
            refine wpAnyH_take (i := 5) (v := ?v23) rfl (by kernel_rfl) (by kernel_rfl) (by kernel_rfl) (fun _ _ _ h => h) (Or.inl ⟨by rfl, ?y23⟩) (by assumption) ?r23
            case y23 => (intro w hSw; (try dsimp only at hSw); go_simp; try (with_reducible rfl))
            simp only [List.getElem_toArray, List.getElem_cons_succ, List.getElem_cons_zero, Act.put, List.setIfInBounds_toArray, List.set_cons_zero, List.set_cons_succ]
            refine wpAnyH_take (i := 6) (v := ?v24) rfl (by kernel_rfl) (by kernel_rfl) (by kernel_rfl) (fun _ _ _ h => h) (Or.inl ⟨by rfl, ?y24⟩) (by assumption) ?r24
            case y24 => (intro w hSw; (try dsimp only at hSw); go_simp; try (with_reducible rfl))
            simp only [List.getElem_toArray, List.getElem_cons_succ, List.getElem_cons_zero, Act.put, List.setIfInBounds_toArray, List.set_cons_zero, List.set_cons_succ]
            refine wpAnyH_take (i := 7) (v := ?v25) rfl (by kernel_rfl) (by kernel_rfl) (by kernel_rfl) (fun _ _ _ h => h) (Or.inl ⟨by rfl, ?y25⟩) (by assumption) ?r25
            case y25 => (intro w hSw; (try dsimp only at hSw); go_simp; try (with_reducible rfl))
            simp only [List.getElem_toArray, List.getElem_cons_succ, List.getElem_cons_zero, Act.put, List.setIfInBounds_toArray, List.set_cons_zero, List.set_cons_succ]
            refine wpAnyH_take (i := 8) (v := ?v26) rfl (by kernel_rfl) (by kernel_rfl) (by kernel_rfl) (fun _ _ _ h => h) (Or.inl ⟨by rfl, ?y26⟩) (by assumption) ?r26
            case y26 => (intro w hSw; (try dsimp only at hSw); go_simp; try (with_reducible rfl))
            simp only [List.getElem_toArray, List.getElem_cons_succ, List.getElem_cons_zero, Act.put, List.setIfInBounds_toArray, List.set_cons_zero, List.set_cons_succ]
            refine wpAnyH_take (i := 9) (v := ?v27) rfl (by kernel_rfl) (by kernel_rfl) (by kernel_rfl) (fun _ _ _ h => h) (Or.inl ⟨by rfl, ?y27⟩) (by assumption) ?r27
            case y27 => (intro w hSw; (try dsimp only at hSw); go_simp; try (with_reducible rfl))
            simp only [List.getElem_toArray, List.getElem_cons_succ, List.getElem_cons_zero, Act.put, List.setIfInBounds_toArray, List.set_cons_zero, List.set_cons_succ]
            refine wpAnyH_take (i := 10) (v := ?v28) rfl (by kernel_rfl) (by kernel_rfl) (by kernel_rfl) (fun _ _ _ h => h) (Or.inl ⟨by rfl, ?y28⟩) (by assumption) ?r28
            case y28 => (intro w hSw; (try dsimp only at hSw); go_simp; try (with_reducible rfl))
            simp only [List.getElem_toArray, List.getElem_cons_succ, List.getElem_cons_zero, Act.put, List.setIfInBounds_toArray, List.set_cons_zero, List.set_cons_succ]
            refine wpAnyH_take (i := 11) (v := ?v29) rfl (by kernel_rfl) (by kernel_rfl) (by kernel_rfl) (fun _ _ _ h => h) (Or.inl ⟨by rfl, ?y29⟩) (by assumption) ?r29
            case y29 => (intro w hSw; (try dsimp only at hSw); go_simp; try (with_reducible rfl))
            simp only [List.getElem_toArray, List.getElem_cons_succ, List.getElem_cons_zero, Act.put, List.setIfInBounds_toArray, List.set_cons_zero, List.set_cons_succ]
            refine wpAnyH_take (i := 12) (v := ?v30) rfl (by kernel_rfl) (by kernel_rfl) (by kernel_rfl) (fun _ _ _ h => h) (Or.inl ⟨by rfl, ?y30⟩) (by assumption) ?r30
            case y30 => (intro w hSw; (try dsimp only at hSw); go_simp; try (with_reducible rfl))
            simp only [List.getElem_toArray, List.getElem_cons_succ, List.getElem_cons_zero, Act.put, List.setIfInBounds_toArray, List.set_cons_zero, List.set_cons_succ]
            refine wpAnyH_take (i := 13) (v := ?v31) rfl (by kernel_rfl) (by kernel_rfl) (by kernel_rfl) (fun _ _ _ h => h) (Or.inl ⟨by rfl, ?y31⟩) (by assumption) ?r31
            case y31 => (intro w hSw; (try dsimp only at hSw); go_simp; try (with_reducible rfl))
            simp only [List.getElem_toArray, List.getElem_cons_succ, List.getElem_cons_zero, Act.put, List.setIfInBounds_toArray, List.set_cons_zero, List.set_cons_succ]
            refine wpAnyH_take (i := 14) (v := ?v32) rfl (by kernel_rfl) (by kernel_rfl) (by kernel_rfl) (fun _ _ _ h => h) (Or.inl ⟨by rfl, ?y32⟩) (by assumption) ?r32
            case y32 => (intro w hSw; (try dsimp only at hSw); go_simp; try (with_reducible rfl))
            simp only [List.getElem_toArray, List.getElem_cons_succ, List.getElem_cons_zero, Act.put, List.setIfInBounds_toArray, List.set_cons_zero, List.set_cons_succ]
            refine wpAnyH_take (i := 15) (v := ?v33) rfl (by kernel_rfl) (by kernel_rfl) (by kernel_rfl) (fun _ _ _ h => h) (Or.inl ⟨by rfl, ?y33⟩) (by assumption) ?r33
            case y33 => (intro w hSw; (try dsimp only at hSw); go_simp; try (with_reducible rfl))
            simp only [List.getElem_toArray, List.getElem_cons_succ, List.getElem_cons_zero, Act.put, List.setIfInBounds_toArray, List.set_cons_zero, List.set_cons_succ]
            refine wpAnyH_take (i := 16) (v := ?v34) rfl (by kernel_rfl) (by kernel_rfl) (by kernel_rfl) (fun _ _ _ h => h) (Or.inl ⟨by rfl, ?y34⟩) (by assumption) ?r34
            case y34 => (intro w hSw; (try dsimp only at hSw); go_simp; try (with_reducible rfl))
            simp only [List.getElem_toArray, List.getElem_cons_succ, List.getElem_cons_zero, Act.put, List.setIfInBounds_toArray, List.set_cons_zero, List.set_cons_succ]
            refine wpAnyH_take (i := 17) (v := ?v35) rfl (by kernel_rfl) (by kernel_rfl) (by kernel_rfl) (fun _ _ _ h => h) (Or.inl ⟨by rfl, ?y35⟩) (by assumption) ?r35
            case y35 => (intro w hSw; (try dsimp only at hSw); go_simp; try (with_reducible rfl))
            simp only [List.getElem_toArray, List.getElem_cons_succ, List.getElem_cons_zero, Act.put, List.setIfInBounds_toArray, List.set_cons_zero, List.set_cons_succ]
            refine wpAnyH_take (i := 18) (v := ?v36) rfl (by kernel_rfl) (by kernel_rfl) (by kernel_rfl) (fun _ _ _ h => h) (Or.inl ⟨by rfl, ?y36⟩) (by assumption) ?r36
            case y36 => (intro w hSw; (try dsimp only at hSw); go_simp; try (with_reducible rfl))
            simp only [List.getElem_toArray, List.getElem_cons_succ, List.getElem_cons_zero, Act.put, List.setIfInBounds_toArray, List.set_cons_zero, List.set_cons_succ]
            refine wpAnyH_done (by kernel_rfl) ?_ _
            have B1 := hide ((hbel.trans (hb0.mono hbel.size)).trans (hHeld.2.2.2.mono (Nat.le_trans hbel.size hb0.size)))
            clear hHeld
            go_wp2
            go_ret
            refine ⟨?_, B1.out⟩
            have hbf : bb = false := by
              cases bb with
              | false => rfl
              | true =>
              exfalso
              have hg := HBB.out.1 rfl
              have := (hg.2 (j + 1) (by rw [HN.out]; exact hlt)).2 (by omega)
              rw [HXY.out, show j + 1 - 1 = j by omega, HPX.out] at this
              simp only at this
              omega
            rw [hbf]
            rfl
          · have hgt : px < x := by omega
            refine wp_region_held_drew (S := (fun wx => wx.cell? ⟨wr.heap.size, 0, none⟩ = some (.int .i64 x) ∧ wx.cell? ⟨wr.heap.size, 1, none⟩ = some (.int .i64 y) ∧ wx.cell? ⟨b, off + j * 2, none⟩ = some (.int .i64 px) ∧ Below W0.heap.size W0 wx)) (by kernel_rfl) ⟨c0, c1, c2, (Below.refl _ _).drew⟩ (fun hHeld => ?_)
            refine wpAnyH_take (i := 0) (v := ?v37) rfl (by kernel_rfl) (by kernel_rfl) (by kernel_rfl) (fun _ _ _ h => h) (Or.inl ⟨by rfl, ?y37⟩) (by assumption) ?r37
            case y37 => (intro w hSw; (try dsimp only at hSw); go_simp; try (with_reducible rfl))
            simp only [List.getElem_toArray, List.getElem_cons_zero, Act.put, List.setIfInBounds_toArray, List.set_cons_zero, List.set_cons_succ]
            refine wpAnyH_take (i := 1) (v := ?v38) rfl (by kernel_rfl) (by kernel_rfl) (by kernel_rfl) (fun _ _ _ h => h) (Or.inl ⟨by rfl, ?y38⟩) (by assumption) ?r38
            case y38 => (intro w hSw; (try dsimp only at hSw); go_simp; try (with_reducible rfl))
            simp only [List.getElem_toArray, List.getElem_cons_succ, List.getElem_cons_zero, Act.put, List.setIfInBounds_toArray, List.set_cons_zero, List.set_cons_succ]
            refine wpAnyH_ready (rs := [2]) (by kernel_rfl) (by simp) ?_
            refine AllReadyH.cons rfl (fun K hK => ?_) AllReadyH.nil
            simp only [List.getElem_toArray, List.getElem_cons_succ, List.getElem_cons_zero]
            go_simp
            go_at_call 101
            refine (WL.out _).mono ?_
            rintro e w1 ⟨rfl, hb⟩
            dsimp only
            refine hK.out _ _ ?_ (fun hHeld => ?_)
            · exact keep3 (by assumption) hb (Nat.le_refl _)
            clear hK K
            try simp only [Act.put, List.setIfInBounds_toArray, List.set_cons_zero, List.set_cons_succ]
            refine wpAnyH_take (i := 3) (v := ?v39) rfl (by kernel_rfl) (by kernel_rfl) (by kernel_rfl) (fun _ _ _ h => h) (Or.inl ⟨by rfl, ?y39⟩) (by assumption) ?r39
            case y39 => (intro w hSw; (try dsimp only at hSw); go_simp; try (with_reducible rfl))
            simp only [List.getElem_toArray, List.getElem_cons_succ, List.getElem_cons_zero, Act.put, List.setIfInBounds_toArray, List.set_cons_zero, List.set_cons_succ]
            refine wpAnyH_take (i := 4) (v := ?v40) rfl (by kernel_rfl) (by kernel_rfl) (by kernel_rfl) (fun _ _ _ h => h) (Or.inl ⟨by rfl, ?y40⟩) (by assumption) ?r40
            case y40 => (intro w hSw; (try dsimp only at hSw); go_simp; try (with_reducible rfl))
            simp only [List.getElem_toArray, List.getElem_cons_succ, List.getElem_cons_zero, Act.put, List.setIfInBounds_toArray, List.set_cons_zero, List.set_cons_succ]
            refine wpAnyH_take (i := 5) (v := ?v41) rfl (by kernel_rfl) (by kernel_rfl) (by kernel_rfl) (fun _ _ _ h => h) (Or.inl ⟨by rfl, ?y41⟩) (by assumption) ?r41
            case y41 => (intro w hSw; (try dsimp only at hSw); go_simp; try (with_reducible rfl))
            simp only [List.getElem_toArray, List.getElem_cons_succ, List.getElem_cons_zero, Act.put, List.setIfInBounds_toArray, List.set_cons_zero, List.set_cons_succ]
            refine wpAnyH_take (i := 6) (v := ?v42) rfl (by kernel_rfl) (by kernel_rfl) (by kernel_rfl) (fun _ _ _ h => h) (Or.inl ⟨by rfl, ?y42⟩) (by assumption) ?r42
            case y42 => (intro w hSw; (try dsimp only at hSw); go_simp; try (with_reducible rfl))
            simp only [List.getElem_toArray, List.getElem_cons_succ, List.getElem_cons_zero, Act.put, List.setIfInBounds_toArray, List.set_cons_zero, List.set_cons_succ]
            refine wpAnyH_take (i := 7) (v := ?v43) rfl (by kernel_rfl) (by kernel_rfl) (by kernel_rfl) (fun _ _ _ h => h) (Or.inl ⟨by rfl, ?y43⟩) (by assumption) ?r43
            case y43 => (intro w hSw; (try dsimp only at hSw); go_simp; try (with_reducible rfl))
            simp only [List.getElem_toArray, List.getElem_cons_succ, List.getElem_cons_zero, Act.put, List.setIfInBounds_toArray, List.set_cons_zero, List.set_cons_succ]
            refine wpAnyH_take (i := 8) (v := ?v44) rfl (by kernel_rfl) (by kernel_rfl) (by kernel_rfl) (fun _ _ _ h => h) (Or.inl ⟨by rfl, ?y44⟩) (by assumption) ?r44
            case y44 => (intro w hSw; (try dsimp only at hSw); go_simp; try (with_reducible rfl))
            simp only [List.getElem_toArray, List.getElem_cons_succ, List.getElem_cons_zero, Act.put, List.setIfInBounds_toArray, List.set_cons_zero, List.set_cons_succ]
            refine wpAnyH_take (i := 9) (v := ?v45) rfl (by kernel_rfl) (by kernel_rfl) (by kernel_rfl) (fun _ _ _ h => h) (Or.inl ⟨by rfl, ?y45⟩) (by assumption) ?r45
            case y45 => (intro w hSw; (try dsimp only at hSw); go_simp; try (with_reducible rfl))
            simp only [List.getElem_toArray, List.getElem_cons_succ, List.getElem_cons_zero, Act.put, List.setIfInBounds_toArray, List.set_cons_zero, List.set_cons_succ]
            refine wpAnyH_take (i := 10) (v := ?v46) rfl (by kernel_rfl) (by kernel_rfl) (by kernel_rfl) (fun _ _ _ h => h) (Or.inl ⟨by rfl, ?y46⟩) (by assumption) ?r46
            case y46 => (intro w hSw; (try dsimp only at hSw); go_simp; try (with_reducible rfl))
            simp only [List.getElem_toArray, List.getElem_cons_succ, List.getElem_cons_zero, Act.put, List.setIfInBounds_toArray, List.set_cons_zero, List.set_cons_succ]
            refine wpAnyH_take (i := 11) (v := ?v47) rfl (by kernel_rfl) (by kernel_rfl) (by kernel_rfl) (fun _ _ _ h => h) (Or.inl ⟨by rfl, ?y47⟩) (by assumption) ?r47
            case y47 => (intro w hSw; (try dsimp only at hSw); go_simp; try (with_reducible rfl))
            simp only [List.getElem_toArray, List.getElem_cons_succ, List.getElem_cons_zero, Act.put, List.setIfInBounds_toArray, List.set_cons_zero, List.set_cons_succ]
            refine wpAnyH_take (i := 12) (v := ?v48) rfl (by kernel_rfl) (by kernel_rfl) (by kernel_rfl) (fun _ _ _ h => h) (Or.inl ⟨by rfl, ?y48⟩) (by assumption) ?r48
            case y48 => (intro w hSw; (try dsimp only at hSw); go_simp; try (with_reducible rfl))
            simp only [List.getElem_toArray, List.getElem_cons_succ, List.getElem_cons_zero, Act.put, List.setIfInBounds_toArray, List.set_cons_zero, List.set_cons_succ]
            refine wpAnyH_take (i := 13) (v := ?v49) rfl (by kernel_rfl) (by kernel_rfl) (by kernel_rfl) (fun _ _ _ h => h) (Or.inl ⟨by rfl, ?y49⟩) (by assumption) ?r49
            case y49 => (intro w hSw; (try dsimp only at hSw); go_simp; try (with_reducible rfl))
            simp only [List.getElem_toArray, List.getElem_cons_succ, List.getElem_cons_zero, Act.put, List.setIfInBounds_toArray, List.set_cons_zero, List.set_cons_succ]
            refine wpAnyH_take (i := 14) (v := ?v50) rfl (by kernel_rfl) (by kernel_rfl) (by kernel_rfl) (fun _ _ _ h => h) (Or.inl ⟨by rfl, ?y50⟩) (by assumption) ?r50
            case y50 => (intro w hSw; (try dsimp only at hSw); go_simp; try (with_reducible rfl))
            simp only [List.getElem_toArray, List.getElem_cons_succ, List.getElem_cons_zero, Act.put, List.setIfInBounds_toArray, List.set_cons_zero, List.set_cons_succ]
            refine wpAnyH_take (i := 15) (v := ?v51) rfl (by kernel_rfl) (by kernel_rfl) (by kernel_rfl) (fun _ _ _ h => h) (Or.inl ⟨by rfl, ?y51⟩) (by assumption) ?r51
            case y51 => (intro w hSw; (try dsimp only at hSw); go_simp; try (with_reducible rfl))
            simp only [List.getElem_toArray, List.getElem_cons_succ, List.getElem_cons_zero, Act.put, List.setIfInBounds_toArray, List.set_cons_zero, List.set_cons_succ]
            refine wpAnyH_take (i := 16) (v := ?v52) rfl (by kernel_rfl) (by kernel_rfl) (by kernel_rfl) (fun _ _ _ h => h) (Or.inl ⟨by rfl, ?y52⟩) (by assumption) ?r52
            case y52 => (intro w hSw; (try dsimp only at hSw); go_simp; try (with_reducible rfl))
            simp only [List.getElem_toArray, List.getElem_cons_succ, List.getElem_cons_zero, Act.put, List.setIfInBounds_toArray, List.set_cons_zero, List.set_cons_succ]
            refine wpAnyH_take (i := 17) (v := ?v53) rfl (by kernel_rfl) (by kernel_rfl) (by kernel_rfl) (fun _ _ _ h => h) (Or.inl ⟨by rfl, ?y53⟩) (by assumption) ?r53
            case y53 => (intro w hSw; (try dsimp only at hSw); go_simp; try (with_reducible rfl))
            simp only [List.getElem_toArray, List.getElem_cons_succ, List.getElem_cons_zero, Act.put, List.setIfInBounds_toArray, List.set_cons_zero, List.set_cons_succ]
            refine wpAnyH_take (i := 18) (v := ?v54) rfl (by kernel_rfl) (by kernel_rfl) (by kernel_rfl) (fun _ _ _ h => h) (Or.inl ⟨by rfl, ?y54⟩) (by assumption) ?r54
            case y54 => (intro w hSw; (try dsimp only at hSw); go_simp; try (with_reducible rfl))
            simp only [List.getElem_toArray, List.getElem_cons_succ, List.getElem_cons_zero, Act.put, List.setIfInBounds_toArray, List.set_cons_zero, List.set_cons_succ]
            refine wpAnyH_done (by kernel_rfl) ?_ _
            have B1 := hide ((hbel.trans (hb0.mono hbel.size)).trans (hHeld.2.2.2.mono (Nat.le_trans hbel.size hb0.size)))
            clear hHeld
            go_wp2
            go_roundw
            case rel =>
              refine ⟨j + 1 + 1, by omega, by go_num, ?_, B1.out⟩
              intro i hi
              by_cases e : i = j + 1
              · subst e
                rw [HXY.out, show j + 1 - 1 = j by omega, HPX.out]
                exact ⟨HOK.out, fun _ => hgt⟩
              · exact HJ.out i (by omega)
            case measure => simp [intOf]; omega
      · have hno : ¬ GoodS l := fun hg => by
          have := (hg.2 k (by rw [HN.out]; exact hlt)).1
          rw [HXY.out] at this
          exact hok this
        obtain ⟨x', y', hne, WL⟩ : ∃ x' y', ¬ (x = x' ∧ y = y') ∧ Hid (∀ w, Calls Tryd.prog 101 #[.agg #[.int .i64 x, .int .i64 y]] w fun e w' => e = .returned (.agg #[.int .i64 x', .int .i64 y']) ∧ Below w.heap.size w w') := by
          refine ⟨_, _, ?_, fun w => withinLimits_any x y w⟩
          intro hh
          apply hok
          have h1 := (lim_iff 0 1000000000 x (by omega)).1 hh.1.symm
          have h2 := (lim_iff (-1000000000) 1000000000 y (by omega)).1 hh.2.symm
          exact ⟨h1.1, h1.2, h2.1, h2.2⟩
        have HNO := hide hno
        have HNE := hide hne
        clear hok hno hne HPREV
        refine wp_region_held_drew (S := (fun wx => wx.cell? ⟨wr.heap.size, 0, none⟩ = some (.int .i64 x) ∧ wx.cell? ⟨wr.heap.size, 1, none⟩ = some (.int .i64 y) ∧ Below W0.heap.size W0 wx)) (by kernel_rfl) ⟨c0, c1, (Below.refl _ _).drew⟩ (fun hHeld => ?_)
        refine wpAnyH_take (i := 0) (v := ?v55) rfl (by kernel_rfl) (by kernel_rfl) (by kernel_rfl) (fun _ _ _ h => h) (Or.inl ⟨by rfl, ?y55⟩) (by assumption) ?r55
        case y55 => (intro w hSw; (try dsimp only at hSw); go_simp; try (with_reducible rfl))
        simp only [List.getElem_toArray, List.getElem_cons_zero, Act.put, List.setIfInBounds_toArray, List.set_cons_zero, List.set_cons_succ]
        refine wpAnyH_take (i := 1) (v := ?v56) rfl (by kernel_rfl) (by kernel_rfl) (by kernel_rfl) (fun _ _ _ h => h) (Or.inl ⟨by rfl, ?y56⟩) (by assumption) ?r56
        case y56 => (intro w hSw; (try dsimp only at hSw); go_simp; try (with_reducible rfl))
        simp only [List.getElem_toArray, List.getElem_cons_succ, List.getElem_cons_zero, Act.put, List.setIfInBounds_toArray, List.set_cons_zero, List.set_cons_succ]
        refine wpAnyH_ready (rs := [2]) (by kernel_rfl) (by simp) ?_
        refine AllReadyH.cons rfl (fun K hK => ?_) AllReadyH.nil
        simp only [List.getElem_toArray, List.getElem_cons_succ, List.getElem_cons_zero]
        go_simp
        go_at_call 101
        refine (WL.out _).mono ?_
        rintro e w1 ⟨rfl, hb⟩
        dsimp only
        refine hK.out _ _ ?_ (fun hHeld => ?_)
        · exact keep2 (by assumption) hb (Nat.le_refl _)
        clear hK K
        try simp only [Act.put, List.setIfInBounds_toArray, List.set_cons_zero, List.set_cons_succ]
        refine wpAnyH_take (i := 3) (v := .bool true) rfl (by kernel_rfl) (by kernel_rfl) (by kernel_rfl) (fun _ _ _ h => h) (Or.inl ⟨by rfl, ?y57⟩) (by assumption) ?r57
        case y57 => (intro w hSw; (try dsimp only at hSw); go_simp; exact fun h1 h2 => HNE.out ⟨h1, h2⟩)
        simp only [List.getElem_toArray, List.getElem_cons_succ, List.getElem_cons_zero, Act.put, List.setIfInBounds_toArray, List.set_cons_zero, List.set_cons_succ]
        refine wpAnyH_take (i := 4) (v := ?v58) rfl (by kernel_rfl) (by kernel_rfl) (by kernel_rfl) (fun _ _ _ h => h) (Or.inl ⟨by rfl, ?y58⟩) (by assumption) ?r58
        case y58 => (intro w hSw; (try dsimp only at hSw); go_simp; try (with_reducible rfl))
        simp only [List.getElem_toArray, List.getElem_cons_succ, List.getElem_cons_zero, Act.put, List.setIfInBounds_toArray, List.set_cons_zero, List.set_cons_succ]
        refine wpAnyH_take (i := 5) (v := undef) rfl (by kernel_rfl) (by kernel_rfl) (by kernel_rfl) (fun _ _ _ h => h) (Or.inr ⟨by rfl, rfl⟩) (by assumption) ?_
        simp only [List.getElem_toArray, List.getElem_cons_succ, List.getElem_cons_zero, Act.put, List.setIfInBounds_toArray, List.set_cons_zero, List.set_cons_succ]
        refine wpAnyH_take (i := 6) (v := undef) rfl (by kernel_rfl) (by kernel_rfl) (by kernel_rfl) (fun _ _ _ h => h) (Or.inr ⟨by rfl, rfl⟩) (by assumption) ?_
        simp only [List.getElem_toArray, List.getElem_cons_succ, List.getElem_cons_zero, Act.put, List.setIfInBounds_toArray, List.set_cons_zero, List.set_cons_succ]
        refine wpAnyH_take (i := 7) (v := undef) rfl (by kernel_rfl) (by kernel_rfl) (by kernel_rfl) (fun _ _ _ h => h) (Or.inr ⟨by rfl, rfl⟩) (by assumption) ?_
        simp only [List.getElem_toArray, List.getElem_cons_succ, List.getElem_cons_zero, Act.put, List.setIfInBounds_toArray, List.set_cons_zero, List.set_cons_succ]
        refine wpAnyH_take (i := 8) (v := undef) rfl (by kernel_rfl) (by kernel_rfl) (by kernel_rfl) (fun _ _ _ h => h) (Or.inr ⟨by rfl, rfl⟩) (by assumption) ?_
        simp only [List.getElem_toArray, List.getElem_cons_succ, List.getElem_cons_zero, Act.put, List.setIfInBounds_toArray, List.set_cons_zero, List.set_cons_succ]
        refine wpAnyH_take (i := 9) (v := undef) rfl (by kernel_rfl) (by kernel_rfl) (by kernel_rfl) (fun _ _ _ h => h) (Or.inr ⟨by rfl, rfl⟩) (by assumption) ?_
        simp only [List.getElem_toArray, List.getElem_cons_succ, List.getElem_cons_zero, Act.put, List.setIfInBounds_toArray, List.set_cons_zero, List.set_cons_succ]
        refine wpAnyH_take (i := 10) (v := undef) rfl (by kernel_rfl) (by kernel_rfl) (by kernel_rfl) (fun _ _ _ h => h) (Or.inr ⟨by rfl, rfl⟩) (by assumption) ?_
        simp only [List.getElem_toArray, List.getElem_cons_succ, List.getElem_cons_zero, Act.put, List.setIfInBounds_toArray, List.set_cons_zero, List.set_cons_succ]
        refine wpAnyH_take (i := 11) (v := undef) rfl (by kernel_rfl) (by kernel_rfl) (by kernel_rfl) (fun _ _ _ h => h) (Or.inr ⟨by rfl, rfl⟩) (by assumption) ?_
        simp only [List.getElem_toArray, List.getElem_cons_succ, List.getElem_cons_zero, Act.put, List.setIfInBounds_toArray, List.set_cons_zero, List.set_cons_succ]
        refine wpAnyH_take (i := 12) (v := undef) rfl (by kernel_rfl) (by kernel_rfl) (by kernel_rfl) (fun _ _ _ h => h) (Or.inr ⟨by rfl, rfl⟩) (by assumption) ?_
        simp only [List.getElem_toArray, List.getElem_cons_succ, List.getElem_cons_zero, Act.put, List.setIfInBounds_toArray, List.set_cons_zero, List.set_cons_succ]
        refine wpAnyH_take (i := 13) (v := undef) rfl (by kernel_rfl) (by kernel_rfl) (by kernel_rfl) (fun _ _ _ h => h) (Or.inr ⟨by rfl, rfl⟩) (by assumption) ?_
        simp only [List.getElem_toArray, List.getElem_cons_succ, List.getElem_cons_zero, Act.put, List.setIfInBounds_toArray, List.set_cons_zero, List.set_cons_succ]
        refine wpAnyH_take (i := 14) (v := undef) rfl (by kernel_rfl) (by kernel_rfl) (by kernel_rfl) (fun _ _ _ h => h) (Or.inr ⟨by rfl, rfl⟩) (by assumption) ?_
        simp only [List.getElem_toArray, List.getElem_cons_succ, List.getElem_cons_zero, Act.put, List.setIfInBounds_toArray, List.set_cons_zero, List.set_cons_succ]
        refine wpAnyH_take (i := 15) (v := undef) rfl (by kernel_rfl) (by kernel_rfl) (by kernel_rfl) (fun _ _ _ h => h) (Or.inr ⟨by rfl, rfl⟩) (by assumption) ?_
        simp only [List.getElem_toArray, List.getElem_cons_succ, List.getElem_cons_zero, Act.put, List.setIfInBounds_toArray, List.set_cons_zero, List.set_cons_succ]
        refine wpAnyH_take (i := 16) (v := undef) rfl (by kernel_rfl) (by kernel_rfl) (by kernel_rfl) (fun _ _ _ h => h) (Or.inr ⟨by rfl, rfl⟩) (by assumption) ?_
        simp only [List.getElem_toArray, List.getElem_cons_succ, List.getElem_cons_zero, Act.put, List.setIfInBounds_toArray, List.set_cons_zero, List.set_cons_succ]
        refine wpAnyH_take (i := 17) (v := undef) rfl (by kernel_rfl) (by kernel_rfl) (by kernel_rfl) (fun _ _ _ h => h) (Or.inr ⟨by rfl, rfl⟩) (by assumption) ?_
        simp only [List.getElem_toArray, List.getElem_cons_succ, List.getElem_cons_zero, Act.put, List.setIfInBounds_toArray, List.set_cons_zero, List.set_cons_succ]
        refine wpAnyH_take (i := 18) (v := ?v72) rfl (by kernel_rfl) (by kernel_rfl) (by kernel_rfl) (fun _ _ _ h => h) (Or.inl ⟨by rfl, ?y72⟩) (by assumption) ?r72
        case y72 => (intro w hSw; (try dsimp only at hSw); go_simp; try (with_reducible rfl))
        simp only [List.getElem_toArray, List.getElem_cons_succ, List.getElem_cons_zero, Act.put, List.setIfInBounds_toArray, List.set_cons_zero, List.set_cons_succ]
        refine wpAnyH_done (by kernel_rfl) ?_ _
        have B1 := hide ((hbel.trans (hb0.mono hbel.size)).trans (hHeld.2.2.mono (Nat.le_trans hbel.size hb0.size)))
        clear hHeld
        go_wp2
        go_ret
        exact ⟨by rw [bool_no HBB.out HNO.out]; rfl, B1.out⟩
    · have hltI : ¬ (k : Int) < (n : Int) := by omega
      have hg : GoodS l := ⟨by rw [HN.out]; omega, fun j hj => HJ.out j (by rw [HN.out] at hj; omega)⟩
      have HG := hide hg
      clear hg
      go_wp2
      go_ret
      exact ⟨by rw [HBB.out.2 HG.out]; rfl, hbel⟩
end Go.Proofs.YtapffbbmofhpoaaDoor.L1

namespace Go.Proofs.YtapffbbmofhpoaaDoor.L1
open Go.RowKit
set_option linter.unusedVariables false

set_option maxRecDepth 100000 in
set_option maxHeartbeats 400000 in
theorem l1In_yes (x lo hi : Int) (w : World) (h1 : lo ≤ x) (h2 : x ≤ hi) :
    Calls Tryd.prog 92 #[.int .i64 x, .int .i64 lo, .int .i64 hi] w fun e w' => e = .returned (.bool true) ∧ w = w' := by
  go_enter Tryd.func92, Tryd.ntmps92
  go_wp2
  go_ret
  exact ⟨rfl, rfl⟩
set_option maxRecDepth 100000 in
set_option maxHeartbeats 400000 in
theorem l1In_no (x lo hi : Int) (w : World) (h : ¬ (lo ≤ x ∧ x ≤ hi)) :
    Calls Tryd.prog 92 #[.int .i64 x, .int .i64 lo, .int .i64 hi] w fun e w' => e = .returned (.bool false) ∧ w = w' := by
  by_cases h1 : lo ≤ x
  · have h2 : ¬ x ≤ hi := fun h2 => h ⟨h1, h2⟩
    clear h
    go_enter Tryd.func92, Tryd.ntmps92
    go_wp2
    go_ret
    exact ⟨rfl, rfl⟩
  · clear h
    go_enter Tryd.func92, Tryd.ntmps92
    go_wp2
    go_ret
    exact ⟨rfl, rfl⟩

set_option maxRecDepth 100000 in
set_option maxHeartbeats 2000000 in
theorem specGood_any (a : Option Addr) (l : List (Int × Int)) (n cap : Nat) (w : World) (hn : l.length = n) (hs : Sl2 w a l) (hn2 : n ≤ 1048576) (bb : Bool) (hbb : bb = true ↔ GoodS l) :
    Calls Tryd.prog 99 #[.slice a n cap] w fun e w' => e = .returned (.bool bb) ∧ Below w.heap.size w w' := by
  have HBB := hide hbb
  clear hbb
  have HS := hide hs
  have HN := hide hn
  clear hs hn
  go_enter Tryd.func99, Tryd.ntmps99
  go_wp2
  go_loopw [7] (fun i wr => ∃ k : Nat, k ≤ n ∧ i = .int .i64 k ∧ Hid (∀ j, j < k → okS (l.getD j (0, 0)) ∧ (0 < j → (l.getD (j - 1) (0, 0)).1 < (l.getD j (0, 0)).1)) ∧ Below w.heap.size w wr) (fun i _ => n - (intOf i).toNat)
  case atStart => exact ⟨0, Nat.zero_le _, rfl, fun j hj => absurd hj (Nat.not_lt_zero _), Below.refl _ _⟩
  case round =>
    obtain ⟨k, hk, rfl, HJ, hbel⟩ := hrel
    by_cases hlt : k < n
    · obtain ⟨b, off, rfl, hc0, hd0⟩ := HS.out k (by rw [HN.out]; exact hlt)
      have hc : wr.cell? ⟨b, off + k * 2, none⟩ = some (.int .i64 (l.getD k (0, 0)).1) := by
        rw [hbel.cell (p := ⟨b, off + k * 2, none⟩) (blk_lt hc0)]; exact hc0
      have hd : wr.cell? ⟨b, off + k * 2 + 1, none⟩ = some (.int .i64 (l.getD k (0, 0)).2) := by
        rw [hbel.cell (p := ⟨b, off + k * 2 + 1, none⟩) (blk_lt hd0)]; exact hd0
      have hltI : (k : Int) < (n : Int) := by omega
      obtain ⟨x, hx⟩ : ∃ x, x = (l.getD k (0, 0)).1 := ⟨_, rfl⟩
      obtain ⟨y, hy⟩ : ∃ y, y = (l.getD k (0, 0)).2 := ⟨_, rfl⟩
      rw [← hx] at hc
      rw [← hy] at hd
      have hxy : l.getD k (0, 0) = (x, y) := by rw [hx, hy]
      have HXY := hide hxy
      clear hc0 hd0 hx hy hxy
      have hprev : 0 < k → ∃ px, Hid ((l.getD (k - 1) (0, 0)).1 = px) ∧ wr.cell? ⟨b, off + (k - 1) * 2, none⟩ = some (.int .i64 px) := fun h0 => by
        obtain ⟨b', off', ha, hp, _⟩ := HS.out (k - 1) (by rw [HN.out]; omega)
        simp only [Option.some.injEq, Addr.mk.injEq, and_true] at ha
        obtain ⟨rfl, rfl⟩ := ha
        exact ⟨_, rfl, by rw [hbel.cell (p := ⟨b, off + (k - 1) * 2, none⟩) (blk_lt hp)]; exact hp⟩
      have HPREV := hide hprev
      clear hprev
      go_wp2
      obtain ⟨W0, hW0⟩ : ∃ W0, wr.alloc (.cells #[.int .i64 x, .int .i64 y] 50) = W0 := ⟨_, rfl⟩
      have c0 : W0.cell? ⟨wr.heap.size, 0, none⟩ = some (.int .i64 x) := by rw [← hW0]; simp
      have c1 : W0.cell? ⟨wr.heap.size, 1, none⟩ = some (.int .i64 y) := by rw [← hW0]; simp
      have hb0 : Below wr.heap.size wr W0 := by rw [← hW0]; exact (Below.refl _ _).alloc (Nat.le_refl _) _
      rw [hW0]
      clear hW0
      by_cases hxo : 0 ≤ x ∧ x ≤ 1000000000
      · have L1X := hide (fun w => l1In_yes x 0 1000000000 w hxo.1 hxo.2)
        by_cases hyo : -1000000000 ≤ y ∧ y ≤ 1000000000
        · have L1Y := hide (fun w => l1In_yes y (-1000000000) 1000000000 w hyo.1 hyo.2)
          have HOK : Hid (okS (x, y)) := ⟨hxo.1, hxo.2, hyo.1, hyo.2⟩
          clear hxo hyo
          cases k with
          | zero =>
            clear HPREV
            refine wp_region_held_drew (S := (fun wx => wx.cell? ⟨wr.heap.size, 0, none⟩ = some (.int .i64 x) ∧ wx.cell? ⟨wr.heap.size, 1, none⟩ = some (.int .i64 y) ∧ Below W0.heap.size W0 wx)) (by kernel_rfl) ⟨c0, c1, (Below.refl _ _).drew⟩ (fun hHeld => ?_)
            refine wpAnyH_take (i := 0) (v := ?v1) rfl (by kernel_rfl) (by kernel_rfl) (by kernel_rfl) (fun _ _ _ h => h) (Or.inl ⟨by rfl, ?y1⟩) (by assumption) ?r1
            case y1 => (intro w hSw; (try dsimp only at hSw); go_simp; try (with_reducible rfl))
            simp only [List.getElem_toArray, List.getElem_cons_zero, Act.put, List.setIfInBounds_toArray, List.set_cons_zero, List.set_cons_succ]
            refine wpAnyH_take (i := 1) (v := ?v2) rfl (by kernel_rfl) (by kernel_rfl) (by kernel_rfl) (fun _ _ _ h => h) (Or.inl ⟨by rfl, ?y2⟩) (by assumption) ?r2
            case y2 => (intro w hSw; (try dsimp only at hSw); go_simp; try (with_reducible rfl))
            simp only [List.getElem_toArray, List.getElem_cons_succ, List.getElem_cons_zero, Act.put, List.setIfInBounds_toArray, List.set_cons_zero, List.set_cons_succ]
            refine wpAnyH_ready (rs := [2]) (by kernel_rfl) (by simp) ?_
            refine AllReadyH.cons rfl (fun K hK => ?_) AllReadyH.nil
            simp only [List.getElem_toArray, List.getElem_cons_succ, List.getElem_cons_zero]
            go_simp
            go_at_call 92
            refine (L1X.out _).mono ?_
            rintro e w1 ⟨rfl, rfl⟩
            dsimp only
            refine hK.out _ _ ?_ (fun hHeld => ?_)
            · assumption
            clear hK K
            try simp only [Act.put, List.setIfInBounds_toArray, List.set_cons_zero, List.set_cons_succ]
            refine wpAnyH_take (i := 3) (v := ?v3) rfl (by kernel_rfl) (by kernel_rfl) (by kernel_rfl) (fun _ _ _ h => h) (Or.inl ⟨by rfl, ?y3⟩) (by assumption) ?r3
            case y3 => (intro w hSw; (try dsimp only at hSw); go_simp; try (with_reducible rfl))
            simp only [List.getElem_toArray, List.getElem_cons_succ, List.getElem_cons_zero, Act.put, List.setIfInBounds_toArray, List.set_cons_zero, List.set_cons_succ]
            refine wpAnyH_take (i := 4) (v := ?v4) rfl (by kernel_rfl) (by kernel_rfl) (by kernel_rfl) (fun _ _ _ h => h) (Or.inl ⟨by rfl, ?y4⟩) (by assumption) ?r4
            case y4 => (intro w hSw; (try dsimp only at hSw); go_simp; try (with_reducible rfl))
            simp only [List.getElem_toArray, List.getElem_cons_succ, List.getElem_cons_zero, Act.put, List.setIfInBounds_toArray, List.set_cons_zero, List.set_cons_succ]
            refine wpAnyH_take (i := 5) (v := ?v5) rfl (by kernel_rfl) (by kernel_rfl) (by kernel_rfl) (fun _ _ _ h => h) (Or.inl ⟨by rfl, ?y5⟩) (by assumption) ?r5
            case y5 => (intro w hSw; (try dsimp only at hSw); go_simp; try (with_reducible rfl))
            simp only [List.getElem_toArray, List.getElem_cons_succ, List.getElem_cons_zero, Act.put, List.setIfInBounds_toArray, List.set_cons_zero, List.set_cons_succ]
            refine wpAnyH_take (i := 6) (v := ?v6) rfl (by kernel_rfl) (by kernel_rfl) (by kernel_rfl) (fun _ _ _ h => h) (Or.inl ⟨by rfl, ?y6⟩) (by assumption) ?r6
            case y6 => (intro w hSw; (try dsimp only at hSw); go_simp; try (with_reducible rfl))
            simp only [List.getElem_toArray, List.getElem_cons_succ, List.getElem_cons_zero, Act.put, List.setIfInBounds_toArray, List.set_cons_zero, List.set_cons_succ]
            refine wpAnyH_ready (rs := [7]) (by kernel_rfl) (by simp) ?_
            refine AllReadyH.cons rfl (fun K hK => ?_) AllReadyH.nil
            simp only [List.getElem_toArray, List.getElem_cons_succ, List.getElem_cons_zero]
            go_simp
            go_at_call 92
            refine (L1Y.out _).mono ?_
            rintro e w1 ⟨rfl, rfl⟩
            dsimp only
            refine hK.out _ _ ?_ (fun hHeld => ?_)
            · assumption
            clear hK K
            try simp only [Act.put, List.setIfInBounds_toArray, List.set_cons_zero, List.set_cons_succ]
            refine wpAnyH_take (i := 8) (v := ?v7) rfl (by kernel_rfl) (by kernel_rfl) (by kernel_rfl) (fun _ _ _ h => h) (Or.inl ⟨by rfl, ?y7⟩) (by assumption) ?r7
            case y7 => (intro w hSw; (try dsimp only at hSw); go_simp; try (with_reducible rfl))
            simp only [List.getElem_toArray, List.getElem_cons_succ, List.getElem_cons_zero, Act.put, List.setIfInBounds_toArray, List.set_cons_zero, List.set_cons_succ]
            refine wpAnyH_take (i := 9) (v := ?v8) rfl (by kernel_rfl) (by kernel_rfl) (by kernel_rfl) (fun _ _ _ h => h) (Or.inl ⟨by rfl, ?y8⟩) (by assumption) ?r8
            case y8 => (intro w hSw; (try dsimp only at hSw); go_simp; try (with_reducible rfl))
            simp only [List.getElem_toArray, List.getElem_cons_succ, List.getElem_cons_zero, Act.put, List.setIfInBounds_toArray, List.set_cons_zero, List.set_cons_succ]
            refine wpAnyH_take (i := 10) (v := ?v9) rfl (by kernel_rfl) (by kernel_rfl) (by kernel_rfl) (fun _ _ _ h => h) (Or.inl ⟨by rfl, ?y9⟩) (by assumption) ?r9
            case y9 => (intro w hSw; (try dsimp only at hSw); go_simp; try (with_reducible rfl))
            simp only [List.getElem_toArray, List.getElem_cons_succ, List.getElem_cons_zero, Act.put, List.setIfInBounds_toArray, List.set_cons_zero, List.set_cons_succ]
            refine wpAnyH_take (i := 11) (v := ?v10) rfl (by kernel_rfl) (by kernel_rfl) (by kernel_rfl) (fun _ _ _ h => h) (Or.inl ⟨by rfl, ?y10⟩) (by assumption) ?r10
            case y10 => (intro w hSw; (try dsimp only at hSw); go_simp; try (with_reducible rfl))
            simp only [List.getElem_toArray, List.getElem_cons_succ, List.getElem_cons_zero, Act.put, List.setIfInBounds_toArray, List.set_cons_zero, List.set_cons_succ]
            refine wpAnyH_take (i := 12) (v := ?v11) rfl (by kernel_rfl) (by kernel_rfl) (by kernel_rfl) (fun _ _ _ h => h) (Or.inl ⟨by rfl, ?y11⟩) (by assumption) ?r11
            case y11 => (intro w hSw; (try dsimp only at hSw); go_simp; try (with_reducible rfl))
            simp only [List.getElem_toArray, List.getElem_cons_succ, List.getElem_cons_zero, Act.put, List.setIfInBounds_toArray, List.set_cons_zero, List.set_cons_succ]
            refine wpAnyH_take (i := 13) (v := ?v12) rfl (by kernel_rfl) (by kernel_rfl) (by kernel_rfl) (fun _ _ _ h => h) (Or.inl ⟨by rfl, ?y12⟩) (by assumption) ?r12
            case y12 => (intro w hSw; (try dsimp only at hSw); go_simp; try (with_reducible rfl))
            simp only [List.getElem_toArray, List.getElem_cons_succ, List.getElem_cons_zero, Act.put, List.setIfInBounds_toArray, List.set_cons_zero, List.set_cons_succ]
            refine wpAnyH_take (i := 14) (v := undef) rfl (by kernel_rfl) (by kernel_rfl) (by kernel_rfl) (fun _ _ _ h => h) (Or.inr ⟨by rfl, rfl⟩) (by assumption) ?_
            simp only [List.getElem_toArray, List.getElem_cons_succ, List.getElem_cons_zero, Act.put, List.setIfInBounds_toArray, List.set_cons_zero, List.set_cons_succ]
            refine wpAnyH_take (i := 15) (v := undef) rfl (by kernel_rfl) (by kernel_rfl) (by kernel_rfl) (fun _ _ _ h => h) (Or.inr ⟨by rfl, rfl⟩) (by assumption) ?_
            simp only [List.getElem_toArray, List.getElem_cons_succ, List.getElem_cons_zero, Act.put, List.setIfInBounds_toArray, List.set_cons_zero, List.set_cons_succ]
            refine wpAnyH_take (i := 16) (v := undef) rfl (by kernel_rfl) (by kernel_rfl) (by kernel_rfl) (fun _ _ _ h => h) (Or.inr ⟨by rfl, rfl⟩) (by assumption) ?_
            simp only [List.getElem_toArray, List.getElem_cons_succ, List.getElem_cons_zero, Act.put, List.setIfInBounds_toArray, List.set_cons_zero, List.set_cons_succ]
            refine wpAnyH_take (i := 17) (v := undef) rfl (by kernel_rfl) (by kernel_rfl) (by kernel_rfl) (fun _ _ _ h => h) (Or.inr ⟨by rfl, rfl⟩) (by assumption) ?_
            simp only [List.getElem_toArray, List.getElem_cons_succ, List.getElem_cons_zero, Act.put, List.setIfInBounds_toArray, List.set_cons_zero, List.set_cons_succ]
            refine wpAnyH_take (i := 18) (v := undef) rfl (by kernel_rfl) (by kernel_rfl) (by kernel_rfl) (fun _ _ _ h => h) (Or.inr ⟨by rfl, rfl⟩) (by assumption) ?_
            simp only [List.getElem_toArray, List.getElem_cons_succ, List.getElem_cons_zero, Act.put, List.setIfInBounds_toArray, List.set_cons_zero, List.set_cons_succ]
            refine wpAnyH_take (i := 19) (v := undef) rfl (by kernel_rfl) (by kernel_rfl) (by kernel_rfl) (fun _ _ _ h => h) (Or.inr ⟨by rfl, rfl⟩) (by assumption) ?_
            simp only [List.getElem_toArray, List.getElem_cons_succ, List.getElem_cons_zero, Act.put, List.setIfInBounds_toArray, List.set_cons_zero, List.set_cons_succ]
            refine wpAnyH_take (i := 20) (v := undef) rfl (by kernel_rfl) (by kernel_rfl) (by kernel_rfl) (fun _ _ _ h => h) (Or.inr ⟨by rfl, rfl⟩) (by assumption) ?_
            simp only [List.getElem_toArray, List.getElem_cons_succ, List.getElem_cons_zero, Act.put, List.setIfInBounds_toArray, List.set_cons_zero, List.set_cons_succ]
            refine wpAnyH_take (i := 21) (v := undef) rfl (by kernel_rfl) (by kernel_rfl) (by kernel_rfl) (fun _ _ _ h => h) (Or.inr ⟨by rfl, rfl⟩) (by assumption) ?_
            simp only [List.getElem_toArray, List.getElem_cons_succ, List.getElem_cons_zero, Act.put, List.setIfInBounds_toArray, List.set_cons_zero, List.set_cons_succ]
            refine wpAnyH_take (i := 22) (v := undef) rfl (by kernel_rfl) (by kernel_rfl) (by kernel_rfl) (fun _ _ _ h => h) (Or.inr ⟨by rfl, rfl⟩) (by assumption) ?_
            simp only [List.getElem_toArray, List.getElem_cons_succ, List.getElem_cons_zero, Act.put, List.setIfInBounds_toArray, List.set_cons_zero, List.set_cons_succ]
            refine wpAnyH_take (i := 23) (v := ?v22) rfl (by kernel_rfl) (by kernel_rfl) (by kernel_rfl) (fun _ _ _ h => h) (Or.inl ⟨by rfl, ?y22⟩) (by assumption) ?r22
            case y22 => (intro w hSw; (try dsimp only at hSw); go_simp; try (with_reducible rfl))
            simp only [List.getElem_toArray, List.getElem_cons_succ, List.getElem_cons_zero, Act.put, List.setIfInBounds_toArray, List.set_cons_zero, List.set_cons_succ]
            refine wpAnyH_take (i := 24) (v := ?v23) rfl (by kernel_rfl) (by kernel_rfl) (by kernel_rfl) (fun _ _ _ h => h) (Or.inl ⟨by rfl, ?y23⟩) (by assumption) ?r23
            case y23 => (intro w hSw; (try dsimp only at hSw); go_simp; try (with_reducible rfl))
            simp only [List.getElem_toArray, List.getElem_cons_succ, List.getElem_cons_zero, Act.put, List.setIfInBounds_toArray, List.set_cons_zero, List.set_cons_succ]
            refine wpAnyH_done (by kernel_rfl) ?_ _
            have B1 := hide ((hbel.trans (hb0.mono hbel.size)).trans (hHeld.2.2.mono (Nat.le_trans hbel.size hb0.size)))
            clear hHeld
            go_wp2
            go_roundw
            case rel =>
              refine ⟨0 + 1, by omega, rfl, ?_, B1.out⟩
              intro j hj
              obtain rfl : j = 0 := by omega
              rw [HXY.out]
              exact ⟨HOK.out, fun h => absurd h (Nat.lt_irrefl _)⟩
            case measure => simp [intOf]; omega
          | succ j =>
            obtain ⟨px, HPX, hpc⟩ := HPREV.out (by omega)
            have e1 : j + 1 - 1 = j := by omega
            rw [e1] at HPX hpc
            have c2 : W0.cell? ⟨b, off + j * 2, none⟩ = some (.int .i64 px) := by rw [hb0.cell (p := ⟨b, off + j * 2, none⟩) (blk_lt hpc)]; exact hpc
            have hjI : (j : Int) < (n : Int) := by omega
            have hj0 : (0 : Int) ≤ (j : Int) := by omega
            have hwj : IntKind.i64.wrap (j : Int) = (j : Int) := by
              simp only [IntKind.wrap, IntKind.bits, IntKind.signed]
              simp
              omega
            have hjp : (0 : Int) < (j : Int) + 1 := by omega
            clear HPREV e1 hpc
            by_cases hle : x ≤ px
            · refine wp_region_held_drew (S := (fun wx => wx.cell? ⟨wr.heap.size, 0, none⟩ = some (.int .i64 x) ∧ wx.cell? ⟨wr.heap.size, 1, none⟩ = some (.int .i64 y) ∧ wx.cell? ⟨b, off + j * 2, none⟩ = some (.int .i64 px) ∧ Below W0.heap.size W0 wx)) (by kernel_rfl) ⟨c0, c1, c2, (Below.refl _ _).drew⟩ (fun hHeld => ?_)
              refine wpAnyH_take (i := 0) (v := ?v24) rfl (by kernel_rfl) (by kernel_rfl) (by kernel_rfl) (fun _ _ _ h => h) (Or.inl ⟨by rfl, ?y24⟩) (by assumption) ?r24
              case y24 => (intro w hSw; (try dsimp only at hSw); go_simp; try (with_reducible rfl))
              simp only [List.getElem_toArray, List.getElem_cons_zero, Act.put, List.setIfInBounds_toArray, List.set_cons_zero, List.set_cons_succ]
              refine wpAnyH_take (i := 1) (v := ?v25) rfl (by kernel_rfl) (by kernel_rfl) (by kernel_rfl) (fun _ _ _ h => h) (Or.inl ⟨by rfl, ?y25⟩) (by assumption) ?r25
              case y25 => (intro w hSw; (try dsimp only at hSw); go_simp; try (with_reducible rfl))
              simp only [List.getElem_toArray, List.getElem_cons_succ, List.getElem_cons_zero, Act.put, List.setIfInBounds_toArray, List.set_cons_zero, List.set_cons_succ]
              refine wpAnyH_ready (rs := [2]) (by kernel_rfl) (by simp) ?_
              refine AllReadyH.cons rfl (fun K hK => ?_) AllReadyH.nil
              simp only [List.getElem_toArray, List.getElem_cons_succ, List.getElem_cons_zero]
              go_simp
              go_at_call 92
              refine (L1X.out _).mono ?_
              rintro e w1 ⟨rfl, rfl⟩
              dsimp only
              refine hK.out _ _ ?_ (fun hHeld => ?_)
              · assumption
              clear hK K
              try simp only [Act.put, List.setIfInBounds_toArray, List.set_cons_zero, List.set_cons_succ]
              refine wpAnyH_take (i := 3) (v := ?v26) rfl (by kernel_rfl) (by kernel_rfl) (by kernel_rfl) (fun _ _ _ h => h) (Or.inl ⟨by rfl, ?y26⟩) (by assumption) ?r26
              case y26 => (intro w hSw; (try dsimp only at hSw); go_simp; try (with_reducible rfl))
              simp only [List.getElem_toArray, List.getElem_cons_succ, List.getElem_cons_zero, Act.put, List.setIfInBounds_toArray, List.set_cons_zero, List.set_cons_succ]
              refine wpAnyH_take (i := 4) (v := ?v27) rfl (by kernel_rfl) (by kernel_rfl) (by kernel_rfl) (fun _ _ _ h => h) (Or.inl ⟨by rfl, ?y27⟩) (by assumption) ?r27
              case y27 => (intro w hSw; (try dsimp only at hSw); go_simp; try (with_reducible rfl))
              simp only [List.getElem_toArray, List.getElem_cons_succ, List.getElem_cons_zero, Act.put, List.setIfInBounds_toArray, List.set_cons_zero, List.set_cons_succ]
              refine wpAnyH_take (i := 5) (v := ?v28) rfl (by kernel_rfl) (by kernel_rfl) (by kernel_rfl) (fun _ _ _ h => h) (Or.inl ⟨by rfl, ?y28⟩) (by assumption) ?r28
              case y28 => (intro w hSw; (try dsimp only at hSw); go_simp; try (with_reducible rfl))
              simp only [List.getElem_toArray, List.getElem_cons_succ, List.getElem_cons_zero, Act.put, List.setIfInBounds_toArray, List.set_cons_zero, List.set_cons_succ]
              refine wpAnyH_take (i := 6) (v := ?v29) rfl (by kernel_rfl) (by kernel_rfl) (by kernel_rfl) (fun _ _ _ h => h) (Or.inl ⟨by rfl, ?y29⟩) (by assumption) ?r29
              case y29 => (intro w hSw; (try dsimp only at hSw); go_simp; try (with_reducible rfl))
              simp only [List.getElem_toArray, List.getElem_cons_succ, List.getElem_cons_zero, Act.put, List.setIfInBounds_toArray, List.set_cons_zero, List.set_cons_succ]
              refine wpAnyH_ready (rs := [7]) (by kernel_rfl) (by simp) ?_
              refine AllReadyH.cons rfl (fun K hK => ?_) AllReadyH.nil
              simp only [List.getElem_toArray, List.getElem_cons_succ, List.getElem_cons_zero]
              go_simp
              go_at_call 92
              refine (L1Y.out _).mono ?_
              rintro e w1 ⟨rfl, rfl⟩
              dsimp only
              refine hK.out _ _ ?_ (fun hHeld => ?_)
              · assumption
              clear hK K
              try simp only [Act.put, List.setIfInBounds_toArray, List.set_cons_zero, List.set_cons_succ]
              refine wpAnyH_take (i := 8) (v := ?v30) rfl (by kernel_rfl) (by kernel_rfl) (by kernel_rfl) (fun _ _ _ h => h) (Or.inl ⟨by rfl, ?y30⟩) (by assumption) ?r30
              case y30 => (intro w hSw; (try dsimp only at hSw); go_simp; try (with_reducible rfl))
              simp only [List.getElem_toArray, List.getElem_cons_succ, List.getElem_cons_zero, Act.put, List.setIfInBounds_toArray, List.set_cons_zero, List.set_cons_succ]
              refine wpAnyH_take (i := 9) (v := ?v31) rfl (by kernel_rfl) (by kernel_rfl) (by kernel_rfl) (fun _ _ _ h => h) (Or.inl ⟨by rfl, ?y31⟩) (by assumption) ?r31
              case y31 => (intro w hSw; (try dsimp only at hSw); go_simp; try (with_reducible rfl))
              simp only [List.getElem_toArray, List.getElem_cons_succ, List.getElem_cons_zero, Act.put, List.setIfInBounds_toArray, List.set_cons_zero, List.set_cons_succ]
              refine wpAnyH_take (i := 10) (v := ?v32) rfl (by kernel_rfl) (by kernel_rfl) (by kernel_rfl) (fun _ _ _ h => h) (Or.inl ⟨by rfl, ?y32⟩) (by assumption) ?r32
              case y32 => (intro w hSw; (try dsimp only at hSw); go_simp; try (with_reducible rfl))
              simp only [List.getElem_toArray, List.getElem_cons_succ, List.getElem_cons_zero, Act.put, List.setIfInBounds_toArray, List.set_cons_zero, List.set_cons_succ]
              refine wpAnyH_take (i := 11) (v := ?v33) rfl (by kernel_rfl) (by kernel_rfl) (by kernel_rfl) (fun _ _ _ h => h) (Or.inl ⟨by rfl, ?y33⟩) (by assumption) ?r33
              case y33 => (intro w hSw; (try dsimp only at hSw); go_simp; try (with_reducible rfl))
              simp only [List.getElem_toArray, List.getElem_cons_succ, List.getElem_cons_zero, Act.put, List.setIfInBounds_toArray, List.set_cons_zero, List.set_cons_succ]
              refine wpAnyH_take (i := 12) (v := ?v34) rfl (by kernel_rfl) (by kernel_rfl) (by kernel_rfl) (fun _ _ _ h => h) (Or.inl ⟨by rfl, ?y34⟩) (by assumption) ?r34
              case y34 => (intro w hSw; (try dsimp only at hSw); go_simp; try (with_reducible rfl))
              simp only [List.getElem_toArray, List.getElem_cons_succ, List.getElem_cons_zero, Act.put, List.setIfInBounds_toArray, List.set_cons_zero, List.set_cons_succ]
              refine wpAnyH_take (i := 13) (v := ?v35) rfl (by kernel_rfl) (by kernel_rfl) (by kernel_rfl) (fun _ _ _ h => h) (Or.inl ⟨by rfl, ?y35⟩) (by assumption) ?r35
              case y35 => (intro w hSw; (try dsimp only at hSw); go_simp; try (with_reducible rfl))
              simp only [List.getElem_toArray, List.getElem_cons_succ, List.getElem_cons_zero, Act.put, List.setIfInBounds_toArray, List.set_cons_zero, List.set_cons_succ]
              refine wpAnyH_take (i := 14) (v := ?v36) rfl (by kernel_rfl) (by kernel_rfl) (by kernel_rfl) (fun _ _ _ h => h) (Or.inl ⟨by rfl, ?y36⟩) (by assumption) ?r36
              case y36 => (intro w hSw; (try dsimp only at hSw); go_simp; try (with_reducible rfl))
              simp only [List.getElem_toArray, List.getElem_cons_succ, List.getElem_cons_zero, Act.put, List.setIfInBounds_toArray, List.set_cons_zero, List.set_cons_succ]
              refine wpAnyH_take (i := 15) (v := ?v37) rfl (by kernel_rfl) (by kernel_rfl) (by kernel_rfl) (fun _ _ _ h => h) (Or.inl ⟨by rfl, ?y37⟩) (by assumption) ?r37
              case y37 => (intro w hSw; (try dsimp only at hSw); go_simp; try (with_reducible rfl))
              simp only [List.getElem_toArray, List.getElem_cons_succ, List.getElem_cons_zero, Act.put, List.setIfInBounds_toArray, List.set_cons_zero, List.set_cons_succ]
              refine wpAnyH_take (i := 16) (v := ?v38) rfl (by kernel_rfl) (by kernel_rfl) (by kernel_rfl) (fun _ _ _ h => h) (Or.inl ⟨by rfl, ?y38⟩) (by assumption) ?r38
              case y38 => (intro w hSw; (try dsimp only at hSw); go_simp; try (with_reducible rfl))
              simp only [List.getElem_toArray, List.getElem_cons_succ, List.getElem_cons_zero, Act.put, List.setIfInBounds_toArray, List.set_cons_zero, List.set_cons_succ]
              refine wpAnyH_take (i := 17) (v := ?v39) rfl (by kernel_rfl) (by kernel_rfl) (by kernel_rfl) (fun _ _ _ h => h) (Or.inl ⟨by rfl, ?y39⟩) (by assumption) ?r39
              case y39 => (intro w hSw; (try dsimp only at hSw); go_simp; try (with_reducible rfl))
              simp only [List.getElem_toArray, List.getElem_cons_succ, List.getElem_cons_zero, Act.put, List.setIfInBounds_toArray, List.set_cons_zero, List.set_cons_succ]
              refine wpAnyH_take (i := 18) (v := ?v40) rfl (by kernel_rfl) (by kernel_rfl) (by kernel_rfl) (fun _ _ _ h => h) (Or.inl ⟨by rfl, ?y40⟩) (by assumption) ?r40
              case y40 => (intro w hSw; (try dsimp only at hSw); go_simp; try (with_reducible rfl))
              simp only [List.getElem_toArray, List.getElem_cons_succ, List.getElem_cons_zero, Act.put, List.setIfInBounds_toArray, List.set_cons_zero, List.set_cons_succ]
              refine wpAnyH_take (i := 19) (v := ?v41) rfl (by kernel_rfl) (by kernel_rfl) (by kernel_rfl) (fun _ _ _ h => h) (Or.inl ⟨by rfl, ?y41⟩) (by assumption) ?r41
              case y41 => (intro w hSw; (try dsimp only at hSw); go_simp; try (with_reducible rfl))
              simp only [List.getElem_toArray, List.getElem_cons_succ, List.getElem_cons_zero, Act.put, List.setIfInBounds_toArray, List.set_cons_zero, List.set_cons_succ]
              refine wpAnyH_take (i := 20) (v := ?v42) rfl (by kernel_rfl) (by kernel_rfl) (by kernel_rfl) (fun _ _ _ h => h) (Or.inl ⟨by rfl, ?y42⟩) (by assumption) ?r42
              case y42 => (intro w hSw; (try dsimp only at hSw); go_simp; try (with_reducible rfl))
              simp only [List.getElem_toArray, List.getElem_cons_succ, List.getElem_cons_zero, Act.put, List.setIfInBounds_toArray, List.set_cons_zero, List.set_cons_succ]
              refine wpAnyH_take (i := 21) (v := ?v43) rfl (by kernel_rfl) (by kernel_rfl) (by kernel_rfl) (fun _ _ _ h => h) (Or.inl ⟨by rfl, ?y43⟩) (by assumption) ?r43
              case y43 => (intro w hSw; (try dsimp only at hSw); go_simp; try (with_reducible rfl))
              simp only [List.getElem_toArray, List.getElem_cons_succ, List.getElem_cons_zero, Act.put, List.setIfInBounds_toArray, List.set_cons_zero, List.set_cons_succ]
              refine wpAnyH_take (i := 22) (v := ?v44) rfl (by kernel_rfl) (by kernel_rfl) (by kernel_rfl) (fun _ _ _ h => h) (Or.inl ⟨by rfl, ?y44⟩) (by assumption) ?r44
              case y44 => (intro w hSw; (try dsimp only at hSw); go_simp; try (with_reducible rfl))
              simp only [List.getElem_toArray, List.getElem_cons_succ, List.getElem_cons_zero, Act.put, List.setIfInBounds_toArray, List.set_cons_zero, List.set_cons_succ]
              refine wpAnyH_take (i := 23) (v := ?v45) rfl (by kernel_rfl) (by kernel_rfl) (by kernel_rfl) (fun _ _ _ h => h) (Or.inl ⟨by rfl, ?y45⟩) (by assumption) ?r45
              case y45 => (intro w hSw; (try dsimp only at hSw); go_simp; try (with_reducible rfl))
              simp only [List.getElem_toArray, List.getElem_cons_succ, List.getElem_cons_zero, Act.put, List.setIfInBounds_toArray, List.set_cons_zero, List.set_cons_succ]
              refine wpAnyH_take (i := 24) (v := ?v46) rfl (by kernel_rfl) (by kernel_rfl) (by kernel_rfl) (fun _ _ _ h => h) (Or.inl ⟨by rfl, ?y46⟩) (by assumption) ?r46
              case y46 => (intro w hSw; (try dsimp only at hSw); go_simp; try (with_reducible rfl))
              simp only [List.getElem_toArray, List.getElem_cons_succ, List.getElem_cons_zero, Act.put, List.setIfInBounds_toArray, List.set_cons_zero, List.set_cons_succ]
              refine wpAnyH_done (by kernel_rfl) ?_ _
              have B1 := hide ((hbel.trans (hb0.mono hbel.size)).trans (hHeld.2.2.2.mono (Nat.le_trans hbel.size hb0.size)))
              clear hHeld
              go_wp2
              go_ret
              refine ⟨?_, B1.out⟩
              have hbf : bb = false := by
                cases bb with
                | false => rfl
                | true =>
                exfalso
                have hg := HBB.out.1 rfl
                have := (hg.2 (j + 1) (by rw [HN.out]; exact hlt)).2 (by omega)
                rw [HXY.out, show j + 1 - 1 = j by omega, HPX.out] at this
                simp only at this
                omega
              rw [hbf]
              rfl
            · have hgt : px < x := by omega
              refine wp_region_held_drew (S := (fun wx => wx.cell? ⟨wr.heap.size, 0, none⟩ = some (.int .i64 x) ∧ wx.cell? ⟨wr.heap.size, 1, none⟩ = some (.int .i64 y) ∧ wx.cell? ⟨b, off + j * 2, none⟩ = some (.int .i64 px) ∧ Below W0.heap.size W0 wx)) (by kernel_rfl) ⟨c0, c1, c2, (Below.refl _ _).drew⟩ (fun hHeld => ?_)
              refine wpAnyH_take (i := 0) (v := ?v47) rfl (by kernel_rfl) (by kernel_rfl) (by kernel_rfl) (fun _ _ _ h => h) (Or.inl ⟨by rfl, ?y47⟩) (by assumption) ?r47
              case y47 => (intro w hSw; (try dsimp only at hSw); go_simp; try (with_reducible rfl))
              simp only [List.getElem_toArray, List.getElem_cons_zero, Act.put, List.setIfInBounds_toArray, List.set_cons_zero, List.set_cons_succ]
              refine wpAnyH_take (i := 1) (v := ?v48) rfl (by kernel_rfl) (by kernel_rfl) (by kernel_rfl) (fun _ _ _ h => h) (Or.inl ⟨by rfl, ?y48⟩) (by assumption) ?r48
              case y48 => (intro w hSw; (try dsimp only at hSw); go_simp; try (with_reducible rfl))
              simp only [List.getElem_toArray, List.getElem_cons_succ, List.getElem_cons_zero, Act.put, List.setIfInBounds_toArray, List.set_cons_zero, List.set_cons_succ]
              refine wpAnyH_ready (rs := [2]) (by kernel_rfl) (by simp) ?_
              refine AllReadyH.cons rfl (fun K hK => ?_) AllReadyH.nil
              simp only [List.getElem_toArray, List.getElem_cons_succ, List.getElem_cons_zero]
              go_simp
              go_at_call 92
              refine (L1X.out _).mono ?_
              rintro e w1 ⟨rfl, rfl⟩
              dsimp only
              refine hK.out _ _ ?_ (fun hHeld => ?_)
              · assumption
              clear hK K
              try simp only [Act.put, List.setIfInBounds_toArray, List.set_cons_zero, List.set_cons_succ]
              refine wpAnyH_take (i := 3) (v := ?v49) rfl (by kernel_rfl) (by kernel_rfl) (by kernel_rfl) (fun _ _ _ h => h) (Or.inl ⟨by rfl, ?y49⟩) (by assumption) ?r49
              case y49 => (intro w hSw; (try dsimp only at hSw); go_simp; try (with_reducible rfl))
              simp only [List.getElem_toArray, List.getElem_cons_succ, List.getElem_cons_zero, Act.put, List.setIfInBounds_toArray, List.set_cons_zero, List.set_cons_succ]
              refine wpAnyH_take (i := 4) (v := ?v50) rfl (by kernel_rfl) (by kernel_rfl) (by kernel_rfl) (fun _ _ _ h => h) (Or.inl ⟨by rfl, ?y50⟩) (by assumption) ?r50
              case y50 => (intro w hSw; (try dsimp only at hSw); go_simp; try (with_reducible rfl))
              simp only [List.getElem_toArray, List.getElem_cons_succ, List.getElem_cons_zero, Act.put, List.setIfInBounds_toArray, List.set_cons_zero, List.set_cons_succ]
              refine wpAnyH_take (i := 5) (v := ?v51) rfl (by kernel_rfl) (by kernel_rfl) (by kernel_rfl) (fun _ _ _ h => h) (Or.inl ⟨by rfl, ?y51⟩) (by assumption) ?r51
              case y51 => (intro w hSw; (try dsimp only at hSw); go_simp; try (with_reducible rfl))
              simp only [List.getElem_toArray, List.getElem_cons_succ, List.getElem_cons_zero, Act.put, List.setIfInBounds_toArray, List.set_cons_zero, List.set_cons_succ]
              refine wpAnyH_take (i := 6) (v := ?v52) rfl (by kernel_rfl) (by kernel_rfl) (by kernel_rfl) (fun _ _ _ h => h) (Or.inl ⟨by rfl, ?y52⟩) (by assumption) ?r52
              case y52 => (intro w hSw; (try dsimp only at hSw); go_simp; try (with_reducible rfl))
              simp only [List.getElem_toArray, List.getElem_cons_succ, List.getElem_cons_zero, Act.put, List.setIfInBounds_toArray, List.set_cons_zero, List.set_cons_succ]
              refine wpAnyH_ready (rs := [7]) (by kernel_rfl) (by simp) ?_
              refine AllReadyH.cons rfl (fun K hK => ?_) AllReadyH.nil
              simp only [List.getElem_toArray, List.getElem_cons_succ, List.getElem_cons_zero]
              go_simp
              go_at_call 92
              refine (L1Y.out _).mono ?_
              rintro e w1 ⟨rfl, rfl⟩
              dsimp only
              refine hK.out _ _ ?_ (fun hHeld => ?_)
              · assumption
              clear hK K
              try simp only [Act.put, List.setIfInBounds_toArray, List.set_cons_zero, List.set_cons_succ]
              refine wpAnyH_take (i := 8) (v := ?v53) rfl (by kernel_rfl) (by kernel_rfl) (by kernel_rfl) (fun _ _ _ h => h) (Or.inl ⟨by rfl, ?y53⟩) (by assumption) ?r53
              case y53 => (intro w hSw; (try dsimp only at hSw); go_simp; try (with_reducible rfl))
              simp only [List.getElem_toArray, List.getElem_cons_succ, List.getElem_cons_zero, Act.put, List.setIfInBounds_toArray, List.set_cons_zero, List.set_cons_succ]
              refine wpAnyH_take (i := 9) (v := ?v54) rfl (by kernel_rfl) (by kernel_rfl) (by kernel_rfl) (fun _ _ _ h => h) (Or.inl ⟨by rfl, ?y54⟩) (by assumption) ?r54
              case y54 => (intro w hSw; (try dsimp only at hSw); go_simp; try (with_reducible rfl))
              simp only [List.getElem_toArray, List.getElem_cons_succ, List.getElem_cons_zero, Act.put, List.setIfInBounds_toArray, List.set_cons_zero, List.set_cons_succ]
              refine wpAnyH_take (i := 10) (v := ?v55) rfl (by kernel_rfl) (by kernel_rfl) (by kernel_rfl) (fun _ _ _ h => h) (Or.inl ⟨by rfl, ?y55⟩) (by assumption) ?r55
              case y55 => (intro w hSw; (try dsimp only at hSw); go_simp; try (with_reducible rfl))
              simp only [List.getElem_toArray, List.getElem_cons_succ, List.getElem_cons_zero, Act.put, List.setIfInBounds_toArray, List.set_cons_zero, List.set_cons_succ]
              refine wpAnyH_take (i := 11) (v := ?v56) rfl (by kernel_rfl) (by kernel_rfl) (by kernel_rfl) (fun _ _ _ h => h) (Or.inl ⟨by rfl, ?y56⟩) (by assumption) ?r56
              case y56 => (intro w hSw; (try dsimp only at hSw); go_simp; try (with_reducible rfl))
              simp only [List.getElem_toArray, List.getElem_cons_succ, List.getElem_cons_zero, Act.put, List.setIfInBounds_toArray, List.set_cons_zero, List.set_cons_succ]
              refine wpAnyH_take (i := 12) (v := ?v57) rfl (by kernel_rfl) (by kernel_rfl) (by kernel_rfl) (fun _ _ _ h => h) (Or.inl ⟨by rfl, ?y57⟩) (by assumption) ?r57
              case y57 => (intro w hSw; (try dsimp only at hSw); go_simp; try (with_reducible rfl))
              simp only [List.getElem_toArray, List.getElem_cons_succ, List.getElem_cons_zero, Act.put, List.setIfInBounds_toArray, List.set_cons_zero, List.set_cons_succ]
              refine wpAnyH_take (i := 13) (v := ?v58) rfl (by kernel_rfl) (by kernel_rfl) (by kernel_rfl) (fun _ _ _ h => h) (Or.inl ⟨by rfl, ?y58⟩) (by assumption) ?r58
              case y58 => (intro w hSw; (try dsimp only at hSw); go_simp; try (with_reducible rfl))
              simp only [List.getElem_toArray, List.getElem_cons_succ, List.getElem_cons_zero, Act.put, List.setIfInBounds_toArray, List.set_cons_zero, List.set_cons_succ]
              refine wpAnyH_take (i := 14) (v := ?v59) rfl (by kernel_rfl) (by kernel_rfl) (by kernel_rfl) (fun _ _ _ h => h) (Or.inl ⟨by rfl, ?y59⟩) (by assumption) ?r59
              case y59 => (intro w hSw; (try dsimp only at hSw); go_simp; try (with_reducible rfl))
              simp only [List.getElem_toArray, List.getElem_cons_succ, List.getElem_cons_zero, Act.put, List.setIfInBounds_toArray, List.set_cons_zero, List.set_cons_succ]
              refine wpAnyH_take (i := 15) (v := ?v60) rfl (by kernel_rfl) (by kernel_rfl) (by kernel_rfl) (fun _ _ _ h => h) (Or.inl ⟨by rfl, ?y60⟩) (by assumption) ?r60
              case y60 => (intro w hSw; (try dsimp only at hSw); go_simp; try (with_reducible rfl))
              simp only [List.getElem_toArray, List.getElem_cons_succ, List.getElem_cons_zero, Act.put, List.setIfInBounds_toArray, List.set_cons_zero, List.set_cons_succ]
              refine wpAnyH_take (i := 16) (v := ?v61) rfl (by kernel_rfl) (by kernel_rfl) (by kernel_rfl) (fun _ _ _ h => h) (Or.inl ⟨by rfl, ?y61⟩) (by assumption) ?r61
              case y61 => (intro w hSw; (try dsimp only at hSw); go_simp; try (with_reducible rfl))
              simp only [List.getElem_toArray, List.getElem_cons_succ, List.getElem_cons_zero, Act.put, List.setIfInBounds_toArray, List.set_cons_zero, List.set_cons_succ]
              refine wpAnyH_take (i := 17) (v := ?v62) rfl (by kernel_rfl) (by kernel_rfl) (by kernel_rfl) (fun _ _ _ h => h) (Or.inl ⟨by rfl, ?y62⟩) (by assumption) ?r62
              case y62 => (intro w hSw; (try dsimp only at hSw); go_simp; try (with_reducible rfl))
              simp only [List.getElem_toArray, List.getElem_cons_succ, List.getElem_cons_zero, Act.put, List.setIfInBounds_toArray, List.set_cons_zero, List.set_cons_succ]
              refine wpAnyH_take (i := 18) (v := ?v63) rfl (by kernel_rfl) (by kernel_rfl) (by kernel_rfl) (fun _ _ _ h => h) (Or.inl ⟨by rfl, ?y63⟩) (by assumption) ?r63
              case y63 => (intro w hSw; (try dsimp only at hSw); go_simp; try (with_reducible rfl))
              simp only [List.getElem_toArray, List.getElem_cons_succ, List.getElem_cons_zero, Act.put, List.setIfInBounds_toArray, List.set_cons_zero, List.set_cons_succ]
              refine wpAnyH_take (i := 19) (v := ?v64) rfl (by kernel_rfl) (by kernel_rfl) (by kernel_rfl) (fun _ _ _ h => h) (Or.inl ⟨by rfl, ?y64⟩) (by assumption) ?r64
              case y64 => (intro w hSw; (try dsimp only at hSw); go_simp; try (with_reducible rfl))
              simp only [List.getElem_toArray, List.getElem_cons_succ, List.getElem_cons_zero, Act.put, List.setIfInBounds_toArray, List.set_cons_zero, List.set_cons_succ]
              refine wpAnyH_take (i := 20) (v := ?v65) rfl (by kernel_rfl) (by kernel_rfl) (by kernel_rfl) (fun _ _ _ h => h) (Or.inl ⟨by rfl, ?y65⟩) (by assumption) ?r65
              case y65 => (intro w hSw; (try dsimp only at hSw); go_simp; try (with_reducible rfl))
              simp only [List.getElem_toArray, List.getElem_cons_succ, List.getElem_cons_zero, Act.put, List.setIfInBounds_toArray, List.set_cons_zero, List.set_cons_succ]
              refine wpAnyH_take (i := 21) (v := ?v66) rfl (by kernel_rfl) (by kernel_rfl) (by kernel_rfl) (fun _ _ _ h => h) (Or.inl ⟨by rfl, ?y66⟩) (by assumption) ?r66
              case y66 => (intro w hSw; (try dsimp only at hSw); go_simp; try (with_reducible rfl))
              simp only [List.getElem_toArray, List.getElem_cons_succ, List.getElem_cons_zero, Act.put, List.setIfInBounds_toArray, List.set_cons_zero, List.set_cons_succ]
              refine wpAnyH_take (i := 22) (v := ?v67) rfl (by kernel_rfl) (by kernel_rfl) (by kernel_rfl) (fun _ _ _ h => h) (Or.inl ⟨by rfl, ?y67⟩) (by assumption) ?r67
              case y67 => (intro w hSw; (try dsimp only at hSw); go_simp; try (with_reducible rfl))
              simp only [List.getElem_toArray, List.getElem_cons_succ, List.getElem_cons_zero, Act.put, List.setIfInBounds_toArray, List.set_cons_zero, List.set_cons_succ]
              refine wpAnyH_take (i := 23) (v := ?v68) rfl (by kernel_rfl) (by kernel_rfl) (by kernel_rfl) (fun _ _ _ h => h) (Or.inl ⟨by rfl, ?y68⟩) (by assumption) ?r68
              case y68 => (intro w hSw; (try dsimp only at hSw); go_simp; try (with_reducible rfl))
              simp only [List.getElem_toArray, List.getElem_cons_succ, List.getElem_cons_zero, Act.put, List.setIfInBounds_toArray, List.set_cons_zero, List.set_cons_succ]
              refine wpAnyH_take (i := 24) (v := ?v69) rfl (by kernel_rfl) (by kernel_rfl) (by kernel_rfl) (fun _ _ _ h => h) (Or.inl ⟨by rfl, ?y69⟩) (by assumption) ?r69
              case y69 => (intro w hSw; (try dsimp only at hSw); go_simp; try (with_reducible rfl))
              simp only [List.getElem_toArray, List.getElem_cons_succ, List.getElem_cons_zero, Act.put, List.setIfInBounds_toArray, List.set_cons_zero, List.set_cons_succ]
              refine wpAnyH_done (by kernel_rfl) ?_ _
              have B1 := hide ((hbel.trans (hb0.mono hbel.size)).trans (hHeld.2.2.2.mono (Nat.le_trans hbel.size hb0.size)))
              clear hHeld
              go_wp2
              go_roundw
              case rel =>
                refine ⟨j + 1 + 1, by omega, by go_num, ?_, B1.out⟩
                intro i hi
                by_cases e : i = j + 1
                · subst e
                  rw [HXY.out, show j + 1 - 1 = j by omega, HPX.out]
                  exact ⟨HOK.out, fun _ => hgt⟩
                · exact HJ.out i (by omega)
              case measure => simp [intOf]; omega
        · have hno : ¬ GoodS l := fun hg => by
            have := (hg.2 k (by rw [HN.out]; exact hlt)).1
            rw [HXY.out] at this
            exact hyo ⟨this.2.2.1, this.2.2.2⟩
          have L1Y := hide (fun w => l1In_no y (-1000000000) 1000000000 w hyo)
          have HNO := hide hno
          clear hxo hyo hno HPREV
          refine wp_region_held_drew (S := (fun wx => wx.cell? ⟨wr.heap.size, 0, none⟩ = some (.int .i64 x) ∧ wx.cell? ⟨wr.heap.size, 1, none⟩ = some (.int .i64 y) ∧ Below W0.heap.size W0 wx)) (by kernel_rfl) ⟨c0, c1, (Below.refl _ _).drew⟩ (fun hHeld => ?_)
          refine wpAnyH_take (i := 0) (v := ?v70) rfl (by kernel_rfl) (by kernel_rfl) (by kernel_rfl) (fun _ _ _ h => h) (Or.inl ⟨by rfl, ?y70⟩) (by assumption) ?r70
          case y70 => (intro w hSw; (try dsimp only at hSw); go_simp; try (with_reducible rfl))
          simp only [List.getElem_toArray, List.getElem_cons_zero, Act.put, List.setIfInBounds_toArray, List.set_cons_zero, List.set_cons_succ]
          refine wpAnyH_take (i := 1) (v := ?v71) rfl (by kernel_rfl) (by kernel_rfl) (by kernel_rfl) (fun _ _ _ h => h) (Or.inl ⟨by rfl, ?y71⟩) (by assumption) ?r71
          case y71 => (intro w hSw; (try dsimp only at hSw); go_simp; try (with_reducible rfl))
          simp only [List.getElem_toArray, List.getElem_cons_succ, List.getElem_cons_zero, Act.put, List.setIfInBounds_toArray, List.set_cons_zero, List.set_cons_succ]
          refine wpAnyH_ready (rs := [2]) (by kernel_rfl) (by simp) ?_
          refine AllReadyH.cons rfl (fun K hK => ?_) AllReadyH.nil
          simp only [List.getElem_toArray, List.getElem_cons_succ, List.getElem_cons_zero]
          go_simp
          go_at_call 92
          refine (L1X.out _).mono ?_
          rintro e w1 ⟨rfl, rfl⟩
          dsimp only
          refine hK.out _ _ ?_ (fun hHeld => ?_)
          · assumption
          clear hK K
          try simp only [Act.put, List.setIfInBounds_toArray, List.set_cons_zero, List.set_cons_succ]
          refine wpAnyH_take (i := 3) (v := ?v72) rfl (by kernel_rfl) (by kernel_rfl) (by kernel_rfl) (fun _ _ _ h => h) (Or.inl ⟨by rfl, ?y72⟩) (by assumption) ?r72
          case y72 => (intro w hSw; (try dsimp only at hSw); go_simp; try (with_reducible rfl))
          simp only [List.getElem_toArray, List.getElem_cons_succ, List.getElem_cons_zero, Act.put, List.setIfInBounds_toArray, List.set_cons_zero, List.set_cons_succ]
          refine wpAnyH_take (i := 4) (v := ?v73) rfl (by kernel_rfl) (by kernel_rfl) (by kernel_rfl) (fun _ _ _ h => h) (Or.inl ⟨by rfl, ?y73⟩) (by assumption) ?r73
          case y73 => (intro w hSw; (try dsimp only at hSw); go_simp; try (with_reducible rfl))
          simp only [List.getElem_toArray, List.getElem_cons_succ, List.getElem_cons_zero, Act.put, List.setIfInBounds_toArray, List.set_cons_zero, List.set_cons_succ]
          refine wpAnyH_take (i := 5) (v := ?v74) rfl (by kernel_rfl) (by kernel_rfl) (by kernel_rfl) (fun _ _ _ h => h) (Or.inl ⟨by rfl, ?y74⟩) (by assumption) ?r74
          case y74 => (intro w hSw; (try dsimp only at hSw); go_simp; try (with_reducible rfl))
          simp only [List.getElem_toArray, List.getElem_cons_succ, List.getElem_cons_zero, Act.put, List.setIfInBounds_toArray, List.set_cons_zero, List.set_cons_succ]
          refine wpAnyH_take (i := 6) (v := ?v75) rfl (by kernel_rfl) (by kernel_rfl) (by kernel_rfl) (fun _ _ _ h => h) (Or.inl ⟨by rfl, ?y75⟩) (by assumption) ?r75
          case y75 => (intro w hSw; (try dsimp only at hSw); go_simp; try (with_reducible rfl))
          simp only [List.getElem_toArray, List.getElem_cons_succ, List.getElem_cons_zero, Act.put, List.setIfInBounds_toArray, List.set_cons_zero, List.set_cons_succ]
          refine wpAnyH_ready (rs := [7]) (by kernel_rfl) (by simp) ?_
          refine AllReadyH.cons rfl (fun K hK => ?_) AllReadyH.nil
          simp only [List.getElem_toArray, List.getElem_cons_succ, List.getElem_cons_zero]
          go_simp
          go_at_call 92
          refine (L1Y.out _).mono ?_
          rintro e w1 ⟨rfl, rfl⟩
          dsimp only
          refine hK.out _ _ ?_ (fun hHeld => ?_)
          · assumption
          clear hK K
          try simp only [Act.put, List.setIfInBounds_toArray, List.set_cons_zero, List.set_cons_succ]
          refine wpAnyH_take (i := 8) (v := ?v76) rfl (by kernel_rfl) (by kernel_rfl) (by kernel_rfl) (fun _ _ _ h => h) (Or.inl ⟨by rfl, ?y76⟩) (by assumption) ?r76
          case y76 => (intro w hSw; (try dsimp only at hSw); go_simp; try (with_reducible rfl))
          simp only [List.getElem_toArray, List.getElem_cons_succ, List.getElem_cons_zero, Act.put, List.setIfInBounds_toArray, List.set_cons_zero, List.set_cons_succ]
          refine wpAnyH_take (i := 9) (v := ?v77) rfl (by kernel_rfl) (by kernel_rfl) (by kernel_rfl) (fun _ _ _ h => h) (Or.inl ⟨by rfl, ?y77⟩) (by assumption) ?r77
          case y77 => (intro w hSw; (try dsimp only at hSw); go_simp; try (with_reducible rfl))
          simp only [List.getElem_toArray, List.getElem_cons_succ, List.getElem_cons_zero, Act.put, List.setIfInBounds_toArray, List.set_cons_zero, List.set_cons_succ]
          refine wpAnyH_take (i := 10) (v := ?v78) rfl (by kernel_rfl) (by kernel_rfl) (by kernel_rfl) (fun _ _ _ h => h) (Or.inl ⟨by rfl, ?y78⟩) (by assumption) ?r78
          case y78 => (intro w hSw; (try dsimp only at hSw); go_simp; try (with_reducible rfl))
          simp only [List.getElem_toArray, List.getElem_cons_succ, List.getElem_cons_zero, Act.put, List.setIfInBounds_toArray, List.set_cons_zero, List.set_cons_succ]
          refine wpAnyH_take (i := 11) (v := undef) rfl (by kernel_rfl) (by kernel_rfl) (by kernel_rfl) (fun _ _ _ h => h) (Or.inr ⟨by rfl, rfl⟩) (by assumption) ?_
          simp only [List.getElem_toArray, List.getElem_cons_succ, List.getElem_cons_zero, Act.put, List.setIfInBounds_toArray, List.set_cons_zero, List.set_cons_succ]
          refine wpAnyH_take (i := 12) (v := undef) rfl (by kernel_rfl) (by kernel_rfl) (by kernel_rfl) (fun _ _ _ h => h) (Or.inr ⟨by rfl, rfl⟩) (by assumption) ?_
          simp only [List.getElem_toArray, List.getElem_cons_succ, List.getElem_cons_zero, Act.put, List.setIfInBounds_toArray, List.set_cons_zero, List.set_cons_succ]
          refine wpAnyH_take (i := 13) (v := undef) rfl (by kernel_rfl) (by kernel_rfl) (by kernel_rfl) (fun _ _ _ h => h) (Or.inr ⟨by rfl, rfl⟩) (by assumption) ?_
          simp only [List.getElem_toArray, List.getElem_cons_succ, List.getElem_cons_zero, Act.put, List.setIfInBounds_toArray, List.set_cons_zero, List.set_cons_succ]
          refine wpAnyH_take (i := 14) (v := undef) rfl (by kernel_rfl) (by kernel_rfl) (by kernel_rfl) (fun _ _ _ h => h) (Or.inr ⟨by rfl, rfl⟩) (by assumption) ?_
          simp only [List.getElem_toArray, List.getElem_cons_succ, List.getElem_cons_zero, Act.put, List.setIfInBounds_toArray, List.set_cons_zero, List.set_cons_succ]
          refine wpAnyH_take (i := 15) (v := undef) rfl (by kernel_rfl) (by kernel_rfl) (by kernel_rfl) (fun _ _ _ h => h) (Or.inr ⟨by rfl, rfl⟩) (by assumption) ?_
          simp only [List.getElem_toArray, List.getElem_cons_succ, List.getElem_cons_zero, Act.put, List.setIfInBounds_toArray, List.set_cons_zero, List.set_cons_succ]
          refine wpAnyH_take (i := 16) (v := undef) rfl (by kernel_rfl) (by kernel_rfl) (by kernel_rfl) (fun _ _ _ h => h) (Or.inr ⟨by rfl, rfl⟩) (by assumption) ?_
          simp only [List.getElem_toArray, List.getElem_cons_succ, List.getElem_cons_zero, Act.put, List.setIfInBounds_toArray, List.set_cons_zero, List.set_cons_succ]
          refine wpAnyH_take (i := 17) (v := undef) rfl (by kernel_rfl) (by kernel_rfl) (by kernel_rfl) (fun _ _ _ h => h) (Or.inr ⟨by rfl, rfl⟩) (by assumption) ?_
          simp only [List.getElem_toArray, List.getElem_cons_succ, List.getElem_cons_zero, Act.put, List.setIfInBounds_toArray, List.set_cons_zero, List.set_cons_succ]
          refine wpAnyH_take (i := 18) (v := undef) rfl (by kernel_rfl) (by kernel_rfl) (by kernel_rfl) (fun _ _ _ h => h) (Or.inr ⟨by rfl, rfl⟩) (by assumption) ?_
          simp only [List.getElem_toArray, List.getElem_cons_succ, List.getElem_cons_zero, Act.put, List.setIfInBounds_toArray, List.set_cons_zero, List.set_cons_succ]
          refine wpAnyH_take (i := 19) (v := undef) rfl (by kernel_rfl) (by kernel_rfl) (by kernel_rfl) (fun _ _ _ h => h) (Or.inr ⟨by rfl, rfl⟩) (by assumption) ?_
          simp only [List.getElem_toArray, List.getElem_cons_succ, List.getElem_cons_zero, Act.put, List.setIfInBounds_toArray, List.set_cons_zero, List.set_cons_succ]
          refine wpAnyH_take (i := 20) (v := undef) rfl (by kernel_rfl) (by kernel_rfl) (by kernel_rfl) (fun _ _ _ h => h) (Or.inr ⟨by rfl, rfl⟩) (by assumption) ?_
          simp only [List.getElem_toArray, List.getElem_cons_succ, List.getElem_cons_zero, Act.put, List.setIfInBounds_toArray, List.set_cons_zero, List.set_cons_succ]
          refine wpAnyH_take (i := 21) (v := undef) rfl (by kernel_rfl) (by kernel_rfl) (by kernel_rfl) (fun _ _ _ h => h) (Or.inr ⟨by rfl, rfl⟩) (by assumption) ?_
          simp only [List.getElem_toArray, List.getElem_cons_succ, List.getElem_cons_zero, Act.put, List.setIfInBounds_toArray, List.set_cons_zero, List.set_cons_succ]
          refine wpAnyH_take (i := 22) (v := undef) rfl (by kernel_rfl) (by kernel_rfl) (by kernel_rfl) (fun _ _ _ h => h) (Or.inr ⟨by rfl, rfl⟩) (by assumption) ?_
          simp only [List.getElem_toArray, List.getElem_cons_succ, List.getElem_cons_zero, Act.put, List.setIfInBounds_toArray, List.set_cons_zero, List.set_cons_succ]
          refine wpAnyH_take (i := 23) (v := undef) rfl (by kernel_rfl) (by kernel_rfl) (by kernel_rfl) (fun _ _ _ h => h) (Or.inr ⟨by rfl, rfl⟩) (by assumption) ?_
          simp only [List.getElem_toArray, List.getElem_cons_succ, List.getElem_cons_zero, Act.put, List.setIfInBounds_toArray, List.set_cons_zero, List.set_cons_succ]
          refine wpAnyH_take (i := 24) (v := ?v92) rfl (by kernel_rfl) (by kernel_rfl) (by kernel_rfl) (fun _ _ _ h => h) (Or.inl ⟨by rfl, ?y92⟩) (by assumption) ?r92
          case y92 => (intro w hSw; (try dsimp only at hSw); go_simp; try (with_reducible rfl))
          simp only [List.getElem_toArray, List.getElem_cons_succ, List.getElem_cons_zero, Act.put, List.setIfInBounds_toArray, List.set_cons_zero, List.set_cons_succ]
          refine wpAnyH_done (by kernel_rfl) ?_ _
          have B1 := hide ((hbel.trans (hb0.mono hbel.size)).trans (hHeld.2.2.mono (Nat.le_trans hbel.size hb0.size)))
          clear hHeld
          go_wp2
          go_ret
          exact ⟨by rw [bool_no HBB.out HNO.out]; rfl, B1.out⟩
      · have hno : ¬ GoodS l := fun hg => by
          have := (hg.2 k (by rw [HN.out]; exact hlt)).1
          rw [HXY.out] at this
          exact hxo ⟨this.1, this.2.1⟩
        have L1X := hide (fun w => l1In_no x 0 1000000000 w hxo)
        have HNO := hide hno
        clear hxo hno HPREV
        refine wp_region_held_drew (S := (fun wx => wx.cell? ⟨wr.heap.size, 0, none⟩ = some (.int .i64 x) ∧ wx.cell? ⟨wr.heap.size, 1, none⟩ = some (.int .i64 y) ∧ Below W0.heap.size W0 wx)) (by kernel_rfl) ⟨c0, c1, (Below.refl _ _).drew⟩ (fun hHeld => ?_)
        refine wpAnyH_take (i := 0) (v := ?v93) rfl (by kernel_rfl) (by kernel_rfl) (by kernel_rfl) (fun _ _ _ h => h) (Or.inl ⟨by rfl, ?y93⟩) (by assumption) ?r93
        case y93 => (intro w hSw; (try dsimp only at hSw); go_simp; try (with_reducible rfl))
        simp only [List.getElem_toArray, List.getElem_cons_zero, Act.put, List.setIfInBounds_toArray, List.set_cons_zero, List.set_cons_succ]
        refine wpAnyH_take (i := 1) (v := ?v94) rfl (by kernel_rfl) (by kernel_rfl) (by kernel_rfl) (fun _ _ _ h => h) (Or.inl ⟨by rfl, ?y94⟩) (by assumption) ?r94
        case y94 => (intro w hSw; (try dsimp only at hSw); go_simp; try (with_reducible rfl))
        simp only [List.getElem_toArray, List.getElem_cons_succ, List.getElem_cons_zero, Act.put, List.setIfInBounds_toArray, List.set_cons_zero, List.set_cons_succ]
        refine wpAnyH_ready (rs := [2]) (by kernel_rfl) (by simp) ?_
        refine AllReadyH.cons rfl (fun K hK => ?_) AllReadyH.nil
        simp only [List.getElem_toArray, List.getElem_cons_succ, List.getElem_cons_zero]
        go_simp
        go_at_call 92
        refine (L1X.out _).mono ?_
        rintro e w1 ⟨rfl, rfl⟩
        dsimp only
        refine hK.out _ _ ?_ (fun hHeld => ?_)
        · assumption
        clear hK K
        try simp only [Act.put, List.setIfInBounds_toArray, List.set_cons_zero, List.set_cons_succ]
        refine wpAnyH_take (i := 3) (v := ?v95) rfl (by kernel_rfl) (by kernel_rfl) (by kernel_rfl) (fun _ _ _ h => h) (Or.inl ⟨by rfl, ?y95⟩) (by assumption) ?r95
        case y95 => (intro w hSw; (try dsimp only at hSw); go_simp; try (with_reducible rfl))
        simp only [List.getElem_toArray, List.getElem_cons_succ, List.getElem_cons_zero, Act.put, List.setIfInBounds_toArray, List.set_cons_zero, List.set_cons_succ]
        refine wpAnyH_take (i := 4) (v := ?v96) rfl (by kernel_rfl) (by kernel_rfl) (by kernel_rfl) (fun _ _ _ h => h) (Or.inl ⟨by rfl, ?y96⟩) (by assumption) ?r96
        case y96 => (intro w hSw; (try dsimp only at hSw); go_simp; try (with_reducible rfl))
        simp only [List.getElem_toArray, List.getElem_cons_succ, List.getElem_cons_zero, Act.put, List.setIfInBounds_toArray, List.set_cons_zero, List.set_cons_succ]
        refine wpAnyH_take (i := 5) (v := undef) rfl (by kernel_rfl) (by kernel_rfl) (by kernel_rfl) (fun _ _ _ h => h) (Or.inr ⟨by rfl, rfl⟩) (by assumption) ?_
        simp only [List.getElem_toArray, List.getElem_cons_succ, List.getElem_cons_zero, Act.put, List.setIfInBounds_toArray, List.set_cons_zero, List.set_cons_succ]
        refine wpAnyH_take (i := 6) (v := undef) rfl (by kernel_rfl) (by kernel_rfl) (by kernel_rfl) (fun _ _ _ h => h) (Or.inr ⟨by rfl, rfl⟩) (by assumption) ?_
        simp only [List.getElem_toArray, List.getElem_cons_succ, List.getElem_cons_zero, Act.put, List.setIfInBounds_toArray, List.set_cons_zero, List.set_cons_succ]
        refine wpAnyH_take (i := 7) (v := undef) rfl (by kernel_rfl) (by kernel_rfl) (by kernel_rfl) (fun _ _ _ h => h) (Or.inr ⟨by rfl, rfl⟩) (by assumption) ?_
        simp only [List.getElem_toArray, List.getElem_cons_succ, List.getElem_cons_zero, Act.put, List.setIfInBounds_toArray, List.set_cons_zero, List.set_cons_succ]
        refine wpAnyH_take (i := 8) (v := undef) rfl (by kernel_rfl) (by kernel_rfl) (by kernel_rfl) (fun _ _ _ h => h) (Or.inr ⟨by rfl, rfl⟩) (by assumption) ?_
        simp only [List.getElem_toArray, List.getElem_cons_succ, List.getElem_cons_zero, Act.put, List.setIfInBounds_toArray, List.set_cons_zero, List.set_cons_succ]
        refine wpAnyH_take (i := 9) (v := ?v101) rfl (by kernel_rfl) (by kernel_rfl) (by kernel_rfl) (fun _ _ _ h => h) (Or.inl ⟨by rfl, ?y101⟩) (by assumption) ?r101
        case y101 => (intro w hSw; (try dsimp only at hSw); go_simp; try (with_reducible rfl))
        simp only [List.getElem_toArray, List.getElem_cons_succ, List.getElem_cons_zero, Act.put, List.setIfInBounds_toArray, List.set_cons_zero, List.set_cons_succ]
        refine wpAnyH_take (i := 10) (v := ?v102) rfl (by kernel_rfl) (by kernel_rfl) (by kernel_rfl) (fun _ _ _ h => h) (Or.inl ⟨by rfl, ?y102⟩) (by assumption) ?r102
        case y102 => (intro w hSw; (try dsimp only at hSw); go_simp; try (with_reducible rfl))
        simp only [List.getElem_toArray, List.getElem_cons_succ, List.getElem_cons_zero, Act.put, List.setIfInBounds_toArray, List.set_cons_zero, List.set_cons_succ]
        refine wpAnyH_take (i := 11) (v := undef) rfl (by kernel_rfl) (by kernel_rfl) (by kernel_rfl) (fun _ _ _ h => h) (Or.inr ⟨by rfl, rfl⟩) (by assumption) ?_
        simp only [List.getElem_toArray, List.getElem_cons_succ, List.getElem_cons_zero, Act.put, List.setIfInBounds_toArray, List.set_cons_zero, List.set_cons_succ]
        refine wpAnyH_take (i := 12) (v := undef) rfl (by kernel_rfl) (by kernel_rfl) (by kernel_rfl) (fun _ _ _ h => h) (Or.inr ⟨by rfl, rfl⟩) (by assumption) ?_
        simp only [List.getElem_toArray, List.getElem_cons_succ, List.getElem_cons_zero, Act.put, List.setIfInBounds_toArray, List.set_cons_zero, List.set_cons_succ]
        refine wpAnyH_take (i := 13) (v := undef) rfl (by kernel_rfl) (by kernel_rfl) (by kernel_rfl) (fun _ _ _ h => h) (Or.inr ⟨by rfl, rfl⟩) (by assumption) ?_
        simp only [List.getElem_toArray, List.getElem_cons_succ, List.getElem_cons_zero, Act.put, List.setIfInBounds_toArray, List.set_cons_zero, List.set_cons_succ]
        refine wpAnyH_take (i := 14) (v := undef) rfl (by kernel_rfl) (by kernel_rfl) (by kernel_rfl) (fun _ _ _ h => h) (Or.inr ⟨by rfl, rfl⟩) (by assumption) ?_
        simp only [List.getElem_toArray, List.getElem_cons_succ, List.getElem_cons_zero, Act.put, List.setIfInBounds_toArray, List.set_cons_zero, List.set_cons_succ]
        refine wpAnyH_take (i := 15) (v := undef) rfl (by kernel_rfl) (by kernel_rfl) (by kernel_rfl) (fun _ _ _ h => h) (Or.inr ⟨by rfl, rfl⟩) (by assumption) ?_
        simp only [List.getElem_toArray, List.getElem_cons_succ, List.getElem_cons_zero, Act.put, List.setIfInBounds_toArray, List.set_cons_zero, List.set_cons_succ]
        refine wpAnyH_take (i := 16) (v := undef) rfl (by kernel_rfl) (by kernel_rfl) (by kernel_rfl) (fun _ _ _ h => h) (Or.inr ⟨by rfl, rfl⟩) (by assumption) ?_
        simp only [List.getElem_toArray, List.getElem_cons_succ, List.getElem_cons_zero, Act.put, List.setIfInBounds_toArray, List.set_cons_zero, List.set_cons_succ]
        refine wpAnyH_take (i := 17) (v := undef) rfl (by kernel_rfl) (by kernel_rfl) (by kernel_rfl) (fun _ _ _ h => h) (Or.inr ⟨by rfl, rfl⟩) (by assumption) ?_
        simp only [List.getElem_toArray, List.getElem_cons_succ, List.getElem_cons_zero, Act.put, List.setIfInBounds_toArray, List.set_cons_zero, List.set_cons_succ]
        refine wpAnyH_take (i := 18) (v := undef) rfl (by kernel_rfl) (by kernel_rfl) (by kernel_rfl) (fun _ _ _ h => h) (Or.inr ⟨by rfl, rfl⟩) (by assumption) ?_
        simp only [List.getElem_toArray, List.getElem_cons_succ, List.getElem_cons_zero, Act.put, List.setIfInBounds_toArray, List.set_cons_zero, List.set_cons_succ]
        refine wpAnyH_take (i := 19) (v := undef) rfl (by kernel_rfl) (by kernel_rfl) (by kernel_rfl) (fun _ _ _ h => h) (Or.inr ⟨by rfl, rfl⟩) (by assumption) ?_
        simp only [List.getElem_toArray, List.getElem_cons_succ, List.getElem_cons_zero, Act.put, List.setIfInBounds_toArray, List.set_cons_zero, List.set_cons_succ]
        refine wpAnyH_take (i := 20) (v := undef) rfl (by kernel_rfl) (by kernel_rfl) (by kernel_rfl) (fun _ _ _ h => h) (Or.inr ⟨by rfl, rfl⟩) (by assumption) ?_
        simp only [List.getElem_toArray, List.getElem_cons_succ, List.getElem_cons_zero, Act.put, List.setIfInBounds_toArray, List.set_cons_zero, List.set_cons_succ]
        refine wpAnyH_take (i := 21) (v := undef) rfl (by kernel_rfl) (by kernel_rfl) (by kernel_rfl) (fun _ _ _ h => h) (Or.inr ⟨by rfl, rfl⟩) (by assumption) ?_
        simp only [List.getElem_toArray, List.getElem_cons_succ, List.getElem_cons_zero, Act.put, List.setIfInBounds_toArray, List.set_cons_zero, List.set_cons_succ]
        refine wpAnyH_take (i := 22) (v := undef) rfl (by kernel_rfl) (by kernel_rfl) (by kernel_rfl) (fun _ _ _ h => h) (Or.inr ⟨by rfl, rfl⟩) (by assumption) ?_
        simp only [List.getElem_toArray, List.getElem_cons_succ, List.getElem_cons_zero, Act.put, List.setIfInBounds_toArray, List.set_cons_zero, List.set_cons_succ]
        refine wpAnyH_take (i := 23) (v := undef) rfl (by kernel_rfl) (by kernel_rfl) (by kernel_rfl) (fun _ _ _ h => h) (Or.inr ⟨by rfl, rfl⟩) (by assumption) ?_
        simp only [List.getElem_toArray, List.getElem_cons_succ, List.getElem_cons_zero, Act.put, List.setIfInBounds_toArray, List.set_cons_zero, List.set_cons_succ]
        refine wpAnyH_take (i := 24) (v := ?v116) rfl (by kernel_rfl) (by kernel_rfl) (by kernel_rfl) (fun _ _ _ h => h) (Or.inl ⟨by rfl, ?y116⟩) (by assumption) ?r116
        case y116 => (intro w hSw; (try dsimp only at hSw); go_simp; try (with_reducible rfl))
        simp only [List.getElem_toArray, List.getElem_cons_succ, List.getElem_cons_zero, Act.put, List.setIfInBounds_toArray, List.set_cons_zero, List.set_cons_succ]
        refine wpAnyH_done (by kernel_rfl) ?_ _
        have B1 := hide ((hbel.trans (hb0.mono hbel.size)).trans (hHeld.2.2.mono (Nat.le_trans hbel.size hb0.size)))
        clear hHeld
        go_wp2
        go_ret
        exact ⟨by rw [bool_no HBB.out HNO.out]; rfl, B1.out⟩
    · have hltI : ¬ (k : Int) < (n : Int) := by omega
      by_cases h40 : (n : Int) ≤ 40
      · have hg : GoodS l := ⟨by rw [HN.out]; omega, fun j hj => HJ.out j (by rw [HN.out] at hj; omega)⟩
        have HG := hide hg
        clear hg
        go_wp2
        go_ret
        exact ⟨by rw [HBB.out.2 HG.out]; rfl, hbel⟩
      · have hno : ¬ GoodS l := fun h => by have := h.1; rw [HN.out] at this; omega
        have HNO := hide hno
        clear hno
        go_wp2
        go_ret
        exact ⟨by rw [bool_no HBB.out HNO.out]; rfl, hbel⟩
end Go.Proofs.YtapffbbmofhpoaaDoor.L1

namespace Go.Proofs.YtapffbbmofhpoaaDoor.L1
open Go.RowKit
set_option linter.unusedVariables false

theorem wrap_id {z : Int} (h1 : -9223372036854775808 ≤ z) (h2 : z ≤ 9223372036854775807) : IntKind.i64.wrap z = z := by
  simp only [IntKind.wrap, IntKind.bits, IntKind.signed]
  simp
  omega
theorem dl_bd40 {xs : List Int} {n : Nat} (hn : xs.length = n) (h : OkL xs) : ∀ k, k < n → -4000000000000000000 ≤ (dl 0 xs).getD k 0 ∧ (dl 0 xs).getD k 0 ≤ 4000000000000000000 := fun k hk => by
  have := dl_bd (B := 1000000000000) (by omega) h k (by rw [dl_len]; omega)
  omega
theorem sm_bd40 {xs : List Int} {n : Nat} (hn : xs.length = n) (hn2 : n ≤ 40) (h : OkL xs) : ∀ k, k < n → -4000000000000000000 ≤ (sm 0 xs).getD k 0 ∧ (sm 0 xs).getD k 0 ≤ 4000000000000000000 := fun k hk => by
  have := sm_bd h (k + 1) (by omega)
  rw [List.getD_cons_succ] at this
  omega

set_option maxRecDepth 100000 in
set_option maxHeartbeats 1000000 in
theorem l2Deltas_any (a : Option Addr) (xs : List Int) (n cap : Nat) (w : World) (hn : xs.length = n) (hs : Sl w a xs) (hn2 : n ≤ 40) (hbd : ∀ k, k < n → -4000000000000000000 ≤ (dl 0 xs).getD k 0 ∧ (dl 0 xs).getD k 0 ≤ 4000000000000000000) :
    Calls Tryd.prog 109 #[.slice a n cap] w fun e w' => ∃ v, e = .returned v ∧ w'.ownsRow w.heap.size 3 1 v n ((dl 0 xs).map (Value.int .i64)) ∧ Below w.heap.size w w' := by
  obtain ⟨i0, hi, hz0, hz1, hz2⟩ := info_parts info_int
  have HS := hide hs
  have HN := hide hn
  have HB := hide hbd
  clear hs hn hbd
  go_enter Tryd.func109, Tryd.ntmps109
  go_wp2
  go_loopw [3, 4, 9] (fun o p i wr => ∃ k : Nat, k ≤ n ∧ i = .int .i64 k ∧ p = .int .i64 ((0 :: xs).getD k 0) ∧ wr.ownsRow w.heap.size 3 1 o k (((dl 0 xs).take k).map (Value.int .i64)) ∧ Below w.heap.size w wr) (fun _ _ i _ => n - (intOf i).toNat)
  case atStart => exact ⟨0, Nat.zero_le _, rfl, rfl, World.ownsRow_nil _ _ _ _, Below.refl _ _⟩
  case round =>
    obtain ⟨k, hk, rfl, rfl, hown, hbel⟩ := hrel
    obtain ⟨oa, ocap, rfl, _, _⟩ := own_form hown
    by_cases hlt : k < n
    · obtain ⟨b, off, rfl, hc0⟩ := HS.out k (by rw [HN.out]; exact hlt)
      have hc : wr.cell? ⟨b, off + k, none⟩ = some (.int .i64 (xs.getD k 0)) := by
        rw [hbel.cell (p := ⟨b, off + k, none⟩) (blk_lt hc0)]
        exact hc0
      have hd := dl_get xs 0 k (by rw [HN.out]; exact hlt)
      have hb := HB.out k hlt
      have hnext : (0 :: xs).getD (k + 1) 0 = xs.getD k 0 := List.getD_cons_succ
      have htk := ltake_snoc (dl 0 xs) k (by rw [dl_len, HN.out]; exact hlt)
      obtain ⟨x, hx⟩ : ∃ x, x = xs.getD k 0 := ⟨_, rfl⟩
      obtain ⟨p, hp⟩ : ∃ p, p = (0 :: xs).getD k 0 := ⟨_, rfl⟩
      rw [← hx] at hc hd hnext
      rw [← hp] at hd ⊢
      rw [hd] at htk hb
      obtain ⟨hb1, hb2⟩ := hb
      have hwr : IntKind.i64.wrap (x - p) = x - p := wrap_id (by omega) (by omega)
      have HTK := hide htk
      have HNX := hide hnext
      have hltI : (k : Int) < (n : Int) := by omega
      clear hd htk hnext hc0 hx hp
      go_wp2_with (first
        | (at_builtin; refine wpList_append_own _ rfl _ _ 32 rfl w.heap.size 3 i0 (.int .i64 0) 1 8 Tryd.underlying32 hi hz0 hz1 hz2 rfl (by decide) _ _ _ rfl (hown.alloc _) ⟨wr.heap.size, 0, none⟩ 1 1 [.int .i64 (x - p)] rfl rfl (cell_one_new _ _ _) (by intro u hu; simp at hu; subst hu; rfl) (by unfold maxLen; omega) (by omega) (by have := hbel.size; simp; omega) ?_)
        | go_in)
      intro v' w2 hown' hgrow _
      have hb2 : Below w.heap.size w w2 := (hbel.alloc hbel.size _).grown hgrow (by have := hbel.size; simp; omega) (fun k hk => (hown.lt k hk).1)
      have hown2 : w2.ownsRow w.heap.size 3 1 v' (k + 1) (((dl 0 xs).take (k + 1)).map (Value.int .i64)) := by rw [HTK.out]; simpa using hown'
      clear hown' hgrow hown
      go_wp2
      go_roundw
      case rel => exact ⟨k + 1, by omega, by go_num, by rw [HNX.out], hown2, hb2⟩
      case measure => simp [intOf]; omega
    · obtain rfl : k = n := by omega
      have e : (dl 0 xs).take k = dl 0 xs := List.take_of_length_le (by rw [dl_len, HN.out]; omega)
      rw [e] at hown
      have hltI : ¬ (k : Int) < (k : Int) := by omega
      have HO := hide hown
      clear e hown
      go_wp2
      go_ret
      exact ⟨_, rfl, HO.out, hbel⟩

set_option maxRecDepth 100000 in
set_option maxHeartbeats 1000000 in
theorem l2Sums_any (a : Option Addr) (xs : List Int) (n cap : Nat) (w : World) (hn : xs.length = n) (hs : Sl w a xs) (hn2 : n ≤ 40) (hbd : ∀ k, k < n → -4000000000000000000 ≤ (sm 0 xs).getD k 0 ∧ (sm 0 xs).getD k 0 ≤ 4000000000000000000) :
    Calls Tryd.prog 111 #[.slice a n cap] w fun e w' => ∃ v, e = .returned v ∧ w'.ownsRow w.heap.size 3 1 v n ((sm 0 xs).map (Value.int .i64)) ∧ Below w.heap.size w w' := by
  obtain ⟨i0, hi, hz0, hz1, hz2⟩ := info_parts info_int
  have HS := hide hs
  have HN := hide hn
  have HB := hide hbd
  clear hs hn hbd
  go_enter Tryd.func111, Tryd.ntmps111
  go_wp2
  go_loopw [3, 4, 9] (fun o p i wr => ∃ k : Nat, k ≤ n ∧ i = .int .i64 k ∧ p = .int .i64 ((0 :: sm 0 xs).getD k 0) ∧ wr.ownsRow w.heap.size 3 1 o k (((sm 0 xs).take k).map (Value.int .i64)) ∧ Below w.heap.size w wr) (fun _ _ i _ => n - (intOf i).toNat)
  case atStart => exact ⟨0, Nat.zero_le _, rfl, rfl, World.ownsRow_nil _ _ _ _, Below.refl _ _⟩
  case round =>
    obtain ⟨k, hk, rfl, rfl, hown, hbel⟩ := hrel
    obtain ⟨oa, ocap, rfl, _, _⟩ := own_form hown
    by_cases hlt : k < n
    · obtain ⟨b, off, rfl, hc0⟩ := HS.out k (by rw [HN.out]; exact hlt)
      have hc : wr.cell? ⟨b, off + k, none⟩ = some (.int .i64 (xs.getD k 0)) := by
        rw [hbel.cell (p := ⟨b, off + k, none⟩) (blk_lt hc0)]
        exact hc0
      have hd := sm_get xs 0 k (by rw [HN.out]; exact hlt)
      have hb := HB.out k hlt
      have hnext : (0 :: sm 0 xs).getD (k + 1) 0 = (sm 0 xs).getD k 0 := List.getD_cons_succ
      have htk := ltake_snoc (sm 0 xs) k (by rw [sm_len, HN.out]; exact hlt)
      obtain ⟨x, hx⟩ : ∃ x, x = xs.getD k 0 := ⟨_, rfl⟩
      obtain ⟨p, hp⟩ : ∃ p, p = (0 :: sm 0 xs).getD k 0 := ⟨_, rfl⟩
      rw [← hx] at hc hd
      rw [← hp] at hd ⊢
      rw [hd] at htk hb hnext
      obtain ⟨hb1, hb2⟩ := hb
      have hwr : IntKind.i64.wrap (p + x) = p + x := wrap_id (by omega) (by omega)
      have HTK := hide htk
      have HNX := hide hnext
      have hltI : (k : Int) < (n : Int) := by omega
      clear hd htk hnext hc0 hx hp
      go_wp2_with (first
        | (at_builtin; refine wpList_append_own _ rfl _ _ 32 rfl w.heap.size 3 i0 (.int .i64 0) 1 8 Tryd.underlying32 hi hz0 hz1 hz2 rfl (by decide) _ _ _ rfl (hown.alloc _) ⟨wr.heap.size, 0, none⟩ 1 1 [.int .i64 (p + x)] rfl rfl (cell_one_new _ _ _) (by intro u hu; simp at hu; subst hu; rfl) (by unfold maxLen; omega) (by omega) (by have := hbel.size; simp; omega) ?_)
        | go_in)
      intro v' w2 hown' hgrow _
      have hb2 : Below w.heap.size w w2 := (hbel.alloc hbel.size _).grown hgrow (by have := hbel.size; simp; omega) (fun k hk => (hown.lt k hk).1)
      have hown2 : w2.ownsRow w.heap.size 3 1 v' (k + 1) (((sm 0 xs).take (k + 1)).map (Value.int .i64)) := by rw [HTK.out]; simpa using hown'
      clear hown' hgrow hown
      go_wp2
      go_roundw
      case rel => exact ⟨k + 1, by omega, by go_num, by rw [HNX.out], hown2, hb2⟩
      case measure => simp [intOf]; omega
    · obtain rfl : k = n := by omega
      have e : (sm 0 xs).take k = sm 0 xs := List.take_of_length_le (by rw [sm_len, HN.out]; omega)
      rw [e] at hown
      have hltI : ¬ (k : Int) < (k : Int) := by omega
      have HO := hide hown
      clear e hown
      go_wp2
      go_ret
      exact ⟨_, rfl, HO.out, hbel⟩
end Go.Proofs.YtapffbbmofhpoaaDoor.L1

namespace Go.Proofs.YtapffbbmofhpoaaDoor.L1
open Go.RowKit
set_option linter.unusedVariables false

theorem nums_take {bs cs : List Int} {k n : Nat} (h1 : bs.length = n) (h2 : cs.length = n) (hk : k < n) (c : Int) : c :: inter (bs.take (k + 1)) (cs.take (k + 1)) = (c :: inter (bs.take k) (cs.take k)) ++ [bs.getD k 0, cs.getD k 0] := by
  rw [inter_take bs cs k (by omega) (by omega)]
  rfl
theorem keepA {wa wb : World} {B1 O1 B2 O2 N : Nat} {v1 v2 : Value} {W : World} (h : wa.cell? ⟨B1, O1, none⟩ = some v1 ∧ wa.cell? ⟨B2, O2, none⟩ = some v2 ∧ Below N W wa) (hb : Below N wa wb) (h1 : B1 < N) (h2 : B2 < N) :
    wb.cell? ⟨B1, O1, none⟩ = some v1 ∧ wb.cell? ⟨B2, O2, none⟩ = some v2 ∧ Below N W wb :=
  ⟨(hb.cell (p := ⟨B1, O1, none⟩) h1).trans h.1, (hb.cell (p := ⟨B2, O2, none⟩) h2).trans h.2.1, h.2.2.trans hb⟩
end Go.Proofs.YtapffbbmofhpoaaDoor.L1

namespace Go.Proofs.YtapffbbmofhpoaaDoor.L1
open Go.RowKit
set_option linter.unusedVariables false

set_option maxRecDepth 100000 in
set_option maxHeartbeats 4000000 in
theorem l2Encode_any (a : Option Addr) (l : List (Int × Int)) (n cap : Nat) (w : World) (hn : l.length = n) (hs : Sl2 w a l) (hg : GoodS l) :
    Calls Tryd.prog 100 #[.slice a n cap] w fun e w' => e = .returned (.string (strOfNums (cat (nums l)))) ∧ Below w.heap.size w w' := by
  have hn2 : n ≤ 40 := by have := hg.1; omega
  have C1 := hide (l2Parts_any a l n cap w hn hs hn2)
  have D1 := hide (fun a cap w hs => l2Deltas_any a (ats l) n cap w (by rw [ats_len, hn]) hs hn2 (dl_bd40 (by rw [ats_len, hn]) (okL_ats hg)))
  have D2 := hide (fun a cap w hs => l2Deltas_any a (dl 0 (ats l)) n cap w (by rw [dl_len, ats_len, hn]) hs hn2 (dl_bd40 (by rw [dl_len, ats_len, hn]) (okL_steps hg)))
  have D3 := hide (fun a cap w hs => l2Deltas_any a (vals l) n cap w (by rw [vals_len, hn]) hs hn2 (dl_bd40 (by rw [vals_len, hn]) (okL_vals hg)))
  have hob := okL_bends hg
  have hoc := okL_changes hg
  obtain ⟨bs, hbs⟩ : ∃ bs, bs = dl 0 (dl 0 (ats l)) := ⟨_, rfl⟩
  obtain ⟨cs, hcs⟩ : ∃ cs, cs = dl 0 (vals l) := ⟨_, rfl⟩
  have hbl : bs.length = n := by rw [hbs, dl_len, dl_len, ats_len, hn]
  have hcl : cs.length = n := by rw [hcs, dl_len, vals_len, hn]
  have hnum : nums l = (n : Int) :: inter bs cs := by rw [hbs, hcs, ← hn]; rfl
  rw [← hbs] at D2 hob
  rw [← hcs] at D3 hoc
  have VN := hide (fun w => l1Varint_any (n : Int) w (by omega) (by omega))
  have HBL := hide hbl
  have HCL := hide hcl
  have HNUM := hide hnum
  have HOB := hide hob
  have HOC := hide hoc
  clear hs hn hg hbs hcs hbl hcl hnum hob hoc
  go_enter Tryd.func100, Tryd.ntmps100
  go_wp2_with fail
  refine C1.out.mono ?_
  rintro e w1 ⟨ot, ov, rfl, htwo, hb1⟩
  obtain ⟨ta, tc, va, vc, rfl, rfl, hst, hsv⟩ := htwo.form
  have HT := hide hst
  have HV := hide hsv
  have B1 := hide hb1
  clear hst hsv hb1 htwo
  go_wp2_with fail
  refine (D1.out _ _ _ HT.out).mono ?_
  rintro e w2 ⟨v1, rfl, ho2, hb2⟩
  obtain ⟨s1, k1, rfl, sl1, _⟩ := own_form ho2
  have V2 := hide (HV.out.below hb2)
  have T2 := hide sl1
  have B2 := hide (B1.out.trans (hb2.mono B1.out.size))
  clear ho2 sl1 hb2 HT HV B1
  go_wp2_with fail
  refine (D2.out _ _ _ T2.out).mono ?_
  rintro e w3 ⟨v2, rfl, ho3, hb3⟩
  obtain ⟨s2, k2, rfl, sl2, _⟩ := own_form ho3
  have V3 := hide (V2.out.below hb3)
  have T3 := hide sl2
  have B3 := hide (B2.out.trans (hb3.mono B2.out.size))
  clear ho3 sl2 hb3 B2 V2 T2
  go_wp2_with fail
  refine (D3.out _ _ _ V3.out).mono ?_
  rintro e w4 ⟨v3, rfl, ho4, hb4⟩
  obtain ⟨s3, k3, rfl, sl3, _⟩ := own_form ho4
  have T4 := hide (T3.out.below hb4)
  have V4 := hide sl3
  have B4 := hide (B3.out.trans (hb4.mono B3.out.size))
  clear ho4 sl3 hb4 T3 V3 B3
  go_wp2_with fail
  refine (VN.out _).mono ?_
  rintro e W2 ⟨rfl, hb5⟩
  have T5 := hide (T4.out.below hb5)
  have V5 := hide (V4.out.below hb5)
  have B5 := hide (B4.out.trans (hb5.mono B4.out.size))
  clear hb5 T4 V4 B4 D1 D2 D3 C1 VN
  go_wp2
  go_loopw [7, 24] (fun o i wr => ∃ k : Nat, k ≤ n ∧ i = .int .i64 k ∧ o = .string (strOfNums (cat ((n : Int) :: inter (bs.take k) (cs.take k)))) ∧ Below W2.heap.size W2 wr) (fun _ i _ => n - (intOf i).toNat)
  case atStart => exact ⟨0, Nat.zero_le _, rfl, by simp [inter, cat], Below.refl _ _⟩
  case round =>
    obtain ⟨k, hk, rfl, rfl, hbel2⟩ := hrel
    by_cases hlt : k < n
    · obtain ⟨bb, bo, rfl, hcx0⟩ := T5.out k (by rw [HBL.out]; exact hlt)
      obtain ⟨cb, co, rfl, hcy0⟩ := V5.out k (by rw [HCL.out]; exact hlt)
      have hcx := (hbel2.cell (p := ⟨bb, bo + k, none⟩) (blk_lt hcx0)).trans hcx0
      have hcy := (hbel2.cell (p := ⟨cb, co + k, none⟩) (blk_lt hcy0)).trans hcy0
      have HBB := hide (blk_lt hcx0)
      have HCB := hide (blk_lt hcy0)
      have htk := nums_take HBL.out HCL.out hlt (n : Int)
      have hvx := HOB.out k (by rw [HBL.out]; exact hlt)
      have hvy := HOC.out k (by rw [HCL.out]; exact hlt)
      obtain ⟨x, hx⟩ : ∃ x, x = bs.getD k 0 := ⟨_, rfl⟩
      obtain ⟨y, hy⟩ : ∃ y, y = cs.getD k 0 := ⟨_, rfl⟩
      rw [← hx] at hcx htk hvx
      rw [← hy] at hcy htk hvy
      have hvcx := fun w => l1Varint_any x w hvx.1 hvx.2
      have hvcy := fun w => l1Varint_any y w hvy.1 hvy.2
      have hst : strOfNums (cat ((n : Int) :: inter (bs.take (k + 1)) (cs.take (k + 1)))) = strOfNums (cat ((n : Int) :: inter (bs.take k) (cs.take k))) ++ (strOfNums (vd (zig x)) ++ strOfNums (vd (zig y))) := by
        rw [htk, cat_append, str_append]
        simp only [cat, List.append_nil, str_append]
      have hl1 : (strOfNums (cat ((n : Int) :: inter (bs.take k) (cs.take k)))).size ≤ 10000 := by
        rw [strOfNums_size]
        have := cat_len ((n : Int) :: inter (bs.take k) (cs.take k))
        have h2 := inter_len (bs.take k) (cs.take k) (by simp [HBL.out, HCL.out])
        have h3 : (bs.take k).length ≤ k := List.length_take_le _ _
        simp only [List.length_cons] at this
        omega
      have hl2 : (strOfNums (vd (zig x))).size ≤ 6 := by rw [strOfNums_size]; exact vdf_le 5 _
      have hl3 : (strOfNums (vd (zig y))).size ≤ 6 := by rw [strOfNums_size]; exact vdf_le 5 _
      obtain ⟨A, hA⟩ : ∃ A, A = strOfNums (cat ((n : Int) :: inter (bs.take k) (cs.take k))) := ⟨_, rfl⟩
      obtain ⟨CX, hCX⟩ : ∃ A, A = strOfNums (vd (zig x)) := ⟨_, rfl⟩
      obtain ⟨CY, hCY⟩ : ∃ A, A = strOfNums (vd (zig y)) := ⟨_, rfl⟩
      rw [← hA] at hst hl1 ⊢
      rw [← hCX] at hst hl2
      rw [← hCY] at hst hl3
      simp only [← hCX] at hvcx
      simp only [← hCY] at hvcy
      have VX := hide hvcx
      have VY := hide hvcy
      have HST := hide hst
      have hs1 : ¬ 9223372036854775807 < CX.size + CY.size := by omega
      have hs2 : ¬ 9223372036854775807 < A.size + (CX.size + CY.size) := by omega
      have hltI : (k : Int) < (n : Int) := by omega
      have hk0 : (0 : Int) ≤ (k : Int) := by omega
      clear hcx0 hcy0 hx hy htk hvx hvy hvcx hvcy hst hA hCX hCY
      go_wp2
      refine wp_region_held_drew (S := (fun wx => wx.cell? ⟨bb, bo + k, none⟩ = some (.int .i64 x) ∧ wx.cell? ⟨cb, co + k, none⟩ = some (.int .i64 y) ∧ Below W2.heap.size W2 wx)) (by kernel_rfl) ⟨hcx, hcy, hbel2.drew⟩ (fun hHeld => ?_)
      refine wpAnyH_take (i := 0) (v := ?v1) rfl (by kernel_rfl) (by kernel_rfl) (by kernel_rfl) (fun _ _ _ h => h) (Or.inl ⟨by rfl, ?y1⟩) (by assumption) ?r1
      case y1 => (intro w hSw; (try dsimp only at hSw); go_simp; try (with_reducible rfl))
      simp only [List.getElem_toArray, List.getElem_cons_zero, Act.put, List.setIfInBounds_toArray, List.set_cons_zero, List.set_cons_succ]
      refine wpAnyH_take (i := 1) (v := ?v2) rfl (by kernel_rfl) (by kernel_rfl) (by kernel_rfl) (fun _ _ _ h => h) (Or.inl ⟨by rfl, ?y2⟩) (by assumption) ?r2
      case y2 => (intro w hSw; (try dsimp only at hSw); go_simp; try (with_reducible rfl))
      simp only [List.getElem_toArray, List.getElem_cons_succ, List.getElem_cons_zero, Act.put, List.setIfInBounds_toArray, List.set_cons_zero, List.set_cons_succ]
      refine wpAnyH_take (i := 2) (v := ?v3) rfl (by kernel_rfl) (by kernel_rfl) (by kernel_rfl) (fun _ _ _ h => h) (Or.inl ⟨by rfl, ?y3⟩) (by assumption) ?r3
      case y3 => (intro w hSw; (try dsimp only at hSw); go_simp; try (with_reducible rfl))
      simp only [List.getElem_toArray, List.getElem_cons_succ, List.getElem_cons_zero, Act.put, List.setIfInBounds_toArray, List.set_cons_zero, List.set_cons_succ]
      refine wpAnyH_take (i := 3) (v := ?v4) rfl (by kernel_rfl) (by kernel_rfl) (by kernel_rfl) (fun _ _ _ h => h) (Or.inl ⟨by rfl, ?y4⟩) (by assumption) ?r4
      case y4 => (intro w hSw; (try dsimp only at hSw); go_simp; try (with_reducible rfl))
      simp only [List.getElem_toArray, List.getElem_cons_succ, List.getElem_cons_zero, Act.put, List.setIfInBounds_toArray, List.set_cons_zero, List.set_cons_succ]
      refine wpAnyH_take (i := 4) (v := ?v5) rfl (by kernel_rfl) (by kernel_rfl) (by kernel_rfl) (fun _ _ _ h => h) (Or.inl ⟨by rfl, ?y5⟩) (by assumption) ?r5
      case y5 => (intro w hSw; (try dsimp only at hSw); go_simp; try (with_reducible rfl))
      simp only [List.getElem_toArray, List.getElem_cons_succ, List.getElem_cons_zero, Act.put, List.setIfInBounds_toArray, List.set_cons_zero, List.set_cons_succ]
      refine wpAnyH_take (i := 6) (v := ?v6) rfl (by kernel_rfl) (by kernel_rfl) (by kernel_rfl) (fun _ _ _ h => h) (Or.inl ⟨by rfl, ?y6⟩) (by assumption) ?r6
      case y6 => (intro w hSw; (try dsimp only at hSw); go_simp; try (with_reducible rfl))
      simp only [List.getElem_toArray, List.getElem_cons_succ, List.getElem_cons_zero, Act.put, List.setIfInBounds_toArray, List.set_cons_zero, List.set_cons_succ]
      refine wpAnyH_take (i := 7) (v := ?v7) rfl (by kernel_rfl) (by kernel_rfl) (by kernel_rfl) (fun _ _ _ h => h) (Or.inl ⟨by rfl, ?y7⟩) (by assumption) ?r7
      case y7 => (intro w hSw; (try dsimp only at hSw); go_simp; try (with_reducible rfl))
      simp only [List.getElem_toArray, List.getElem_cons_succ, List.getElem_cons_zero, Act.put, List.setIfInBounds_toArray, List.set_cons_zero, List.set_cons_succ]
      refine wpAnyH_take (i := 8) (v := ?v8) rfl (by kernel_rfl) (by kernel_rfl) (by kernel_rfl) (fun _ _ _ h => h) (Or.inl ⟨by rfl, ?y8⟩) (by assumption) ?r8
      case y8 => (intro w hSw; (try dsimp only at hSw); go_simp; try (with_reducible rfl))
      simp only [List.getElem_toArray, List.getElem_cons_succ, List.getElem_cons_zero, Act.put, List.setIfInBounds_toArray, List.set_cons_zero, List.set_cons_succ]
      refine wpAnyH_take (i := 9) (v := ?v9) rfl (by kernel_rfl) (by kernel_rfl) (by kernel_rfl) (fun _ _ _ h => h) (Or.inl ⟨by rfl, ?y9⟩) (by assumption) ?r9
      case y9 => (intro w hSw; (try dsimp only at hSw); go_simp; try (with_reducible rfl))
      simp only [List.getElem_toArray, List.getElem_cons_succ, List.getElem_cons_zero, Act.put, List.setIfInBounds_toArray, List.set_cons_zero, List.set_cons_succ]
      refine wpAnyH_ready (rs := [5]) (by kernel_rfl) (by simp) ?_
      refine AllReadyH.cons rfl (fun K hK => ?_) AllReadyH.nil
      simp only [List.getElem_toArray, List.getElem_cons_succ, List.getElem_cons_zero]
      go_simp
      go_at_call 76
      refine (VX.out _).mono ?_
      rintro e w1 ⟨rfl, hb⟩
      dsimp only
      refine hK.out _ _ ?_ (fun hHeld => ?_)
      · exact keepA hHeld (hb.mono hHeld.2.2.size) HBB.out HCB.out
      clear hK K hb
      try simp only [Act.put, List.setIfInBounds_toArray, List.set_cons_zero, List.set_cons_succ]
      refine wpAnyH_ready (rs := [10]) (by kernel_rfl) (by simp) ?_
      refine AllReadyH.cons rfl (fun K hK => ?_) AllReadyH.nil
      simp only [List.getElem_toArray, List.getElem_cons_succ, List.getElem_cons_zero]
      go_simp
      go_at_call 76
      refine (VY.out _).mono ?_
      rintro e w1 ⟨rfl, hb⟩
      dsimp only
      refine hK.out _ _ ?_ (fun hHeld => ?_)
      · exact keepA hHeld (hb.mono hHeld.2.2.size) HBB.out HCB.out
      clear hK K hb
      try simp only [Act.put, List.setIfInBounds_toArray, List.set_cons_zero, List.set_cons_succ]
      refine wpAnyH_take (i := 11) (v := ?v10) rfl (by kernel_rfl) (by kernel_rfl) (by kernel_rfl) (fun _ _ _ h => h) (Or.inl ⟨by rfl, ?y10⟩) (by assumption) ?r10
      case y10 => (intro w hSw; (try dsimp only at hSw); go_simp; try (with_reducible rfl))
      simp only [List.getElem_toArray, List.getElem_cons_succ, List.getElem_cons_zero, Act.put, List.setIfInBounds_toArray, List.set_cons_zero, List.set_cons_succ]
      refine wpAnyH_take (i := 12) (v := ?v11) rfl (by kernel_rfl) (by kernel_rfl) (by kernel_rfl) (fun _ _ _ h => h) (Or.inl ⟨by rfl, ?y11⟩) (by assumption) ?r11
      case y11 => (intro w hSw; (try dsimp only at hSw); go_simp; try (with_reducible rfl))
      simp only [List.getElem_toArray, List.getElem_cons_succ, List.getElem_cons_zero, Act.put, List.setIfInBounds_toArray, List.set_cons_zero, List.set_cons_succ]
      refine wpAnyH_take (i := 13) (v := ?v12) rfl (by kernel_rfl) (by kernel_rfl) (by kernel_rfl) (fun _ _ _ h => h) (Or.inl ⟨by rfl, ?y12⟩) (by assumption) ?r12
      case y12 => (intro w hSw; (try dsimp only at hSw); go_simp; try (with_reducible rfl))
      simp only [List.getElem_toArray, List.getElem_cons_succ, List.getElem_cons_zero, Act.put, List.setIfInBounds_toArray, List.set_cons_zero, List.set_cons_succ]
      refine wpAnyH_done (by kernel_rfl) ?_ _
      have HB4 := hide hHeld.2.2
      clear hHeld
      go_wp2
      go_roundw
      case rel => exact ⟨k + 1, by omega, by go_num, by rw [HST.out], HB4.out⟩
      case measure => simp [intOf]; omega
    · obtain rfl : n = k := by omega
      have e1 : bs.take n = bs := List.take_of_length_le (by rw [HBL.out]; omega)
      have e2 : cs.take n = cs := List.take_of_length_le (by rw [HCL.out]; omega)
      rw [e1, e2, ← HNUM.out]
      have hltI : ¬ (n : Int) < (n : Int) := by omega
      clear e1 e2
      go_wp2
      go_ret
      exact ⟨rfl, B5.out.trans (hbel2.mono B5.out.size)⟩

set_option maxRecDepth 100000 in
set_option maxHeartbeats 400000 in
theorem specEncode_yes (a : Option Addr) (l : List (Int × Int)) (n cap : Nat) (w : World) (hn : l.length = n) (hs : Sl2 w a l) (hg : GoodS l) :
    Calls Tryd.prog 36 #[.slice a n cap] w fun e w' => e = .returned (.tuple #[.string (strOfNums (cat (nums l))), .bool true]) ∧ Below w.heap.size w w' := by
  have C1 := hide (specGood_any a l n cap w hn hs (by have := hg.1; omega) true (by simp [hg]))
  have C2 := hide (fun w hs => l2Encode_any a l n cap w hn hs hg)
  have HS := hide hs
  clear hn hs hg
  go_enter Tryd.func36, Tryd.ntmps36
  go_wp2_with fail
  refine C1.out.mono ?_
  rintro e w1 ⟨rfl, hb1⟩
  have S1 := hide (HS.out.below hb1)
  have B1 := hide hb1
  clear hb1
  go_wp2_with fail
  refine (C2.out _ S1.out).mono ?_
  rintro e w2 ⟨rfl, hb2⟩
  have B2 := hide (B1.out.trans (hb2.mono B1.out.size))
  clear hb2
  go_wp2
  go_ret2
  exact ⟨rfl, B2.out⟩
set_option maxRecDepth 100000 in
set_option maxHeartbeats 400000 in
theorem specEncode_no (a : Option Addr) (l : List (Int × Int)) (n cap : Nat) (w : World) (hn : l.length = n) (hs : Sl2 w a l) (hn2 : n ≤ 1048576) (hg : ¬ GoodS l) :
    Calls Tryd.prog 36 #[.slice a n cap] w fun e w' => e = .returned (.tuple #[.string ⟨#[]⟩, .bool false]) ∧ Below w.heap.size w w' := by
  have C1 := hide (specGood_any a l n cap w hn hs hn2 false (by simp [hg]))
  clear hn hs hg
  go_enter Tryd.func36, Tryd.ntmps36
  go_wp2_with fail
  refine C1.out.mono ?_
  rintro e w1 ⟨rfl, hb1⟩
  go_wp2
  go_ret2
  exact ⟨rfl, hb1⟩
end Go.Proofs.YtapffbbmofhpoaaDoor.L1

namespace Go.Proofs.YtapffbbmofhpoaaDoor.L1
open Go.RowKit
set_option linter.unusedVariables false

theorem OwnSmps.base {w : World} {B B' : Nat} {v : Value} (h : OwnSmps w B v) (hB : B' ≤ B) : OwnSmps w B' v := by
  obtain ⟨l, hl, hb, ho⟩ := h
  exact ⟨l, hl, hb, own_baseS ho hB⟩
/-- spec.EncodeChunk over what the caller owns: a text that is not long. -/
theorem specEncode_own {B : Nat} (v : Value) (w : World) (h : OwnSmps w B v) :
    Calls Tryd.prog 36 #[v] w fun e w' => ∃ (u : ByteArray) (ok : Bool), e = .returned (.tuple #[.string u, .bool ok]) ∧ u.size ≤ 486 ∧ Below w.heap.size w w' := by
  obtain ⟨l, hl, hb, ho⟩ := h
  obtain ⟨a, cap, rfl, hs, _⟩ := own_formS ho
  by_cases hg : GoodS l
  · refine (specEncode_yes a l l.length cap w rfl hs hg).mono ?_
    rintro e w' ⟨rfl, hb'⟩
    refine ⟨_, _, rfl, ?_, hb'⟩
    rw [strOfNums_size]
    have h1 := cat_len (nums l)
    have h2 := nums_len l
    have := hg.1
    omega
  · refine (specEncode_no a l l.length cap w rfl hs (by omega) hg).mono ?_
    rintro e w' ⟨rfl, hb'⟩
    exact ⟨_, _, rfl, by show 0 ≤ 486; omega, hb'⟩

set_option maxRecDepth 100000 in
set_option maxHeartbeats 1000000 in
theorem chunk_any (b N : Nat) (w : World) (h : Cur w b N) (hN : N ≤ 100000) :
    Calls Tryd.prog 103 #[.pointer (some ⟨b, 0, none⟩)] w fun e w' => ∃ u : ByteArray, e = .returned (.string u) ∧ u.size ≤ 488 ∧ Cur w' b (N + 1100) ∧ w.grownBy w' (some b) := by
  have HC := hide h
  have hbw := h.lt
  clear h
  go_enter Tryd.func103, Tryd.ntmps103
  go_wp2_with fail
  refine (samples_any b N _ HC.out (by omega)).mono ?_
  rintro e w1 ⟨v, rfl, hO, hc1, hg1⟩
  have C1 := hide hc1
  have G1 := hide hg1
  have CE := hide (specEncode_own v w1 hO)
  clear hO hc1 hg1 HC
  go_wp2_with fail
  refine CE.out.mono ?_
  rintro e w2 ⟨u, ok, rfl, hu, hb2⟩
  have C2 := hide (C1.out.below hb2)
  have G2 := hide (grown_trans G1.out (below_grown hb2))
  clear hb2 C1 G1 CE
  go_wp2_with fail
  refine (one_any b _ 4 _ C2.out (by omega) (by omega) (by omega)).mono ?_
  rintro e w3 ⟨t, rfl, hc3, hg3⟩
  have C3 := hide hc3
  have G3 := hide (grown_trans G2.out hg3)
  clear hc3 hg3 C2 G2
  cases t with
  | false =>
    go_wp2_with fail
    go_ret
    exact ⟨u, rfl, by omega, C3.out.mono (by omega), G3.out⟩
  | true =>
    go_wp2_with fail
    refine (spoilt_any b _ u _ _ C3.out (by omega) (by omega) (by decide) (by decide)).mono ?_
    rintro e w4 ⟨u4, rfl, hu4, hc4, hg4⟩
    have C4 := hide hc4
    have G4 := hide (grown_trans G3.out hg4)
    clear hc4 hg4 C3 G3
    go_wp2_with fail
    go_ret
    exact ⟨u4, rfl, by omega, C4.out.mono (by omega), G4.out⟩

set_option maxRecDepth 100000 in
set_option maxHeartbeats 1000000 in
theorem drawGoodSamples_any (a : Option Addr) (n cap : Nat) (w : World) (h : Slb w w.heap.size a n) (hn : n ≤ 1048576) :
    Calls Tryd.prog 97 #[.slice a n cap] w fun e w' => ∃ v, e = .returned v ∧ OwnSmps w' w.heap.size v ∧ Below w.heap.size w w' := by
  have HC := hide (cur_new (cap := cap) h hn)
  clear h
  go_enter Tryd.func97, Tryd.ntmps97
  go_wp2_with fail
  refine (samples_any _ 0 _ HC.out (by omega)).mono ?_
  rintro e w1 ⟨v, rfl, hO, _, hg1⟩
  have B1 := hide (grown_to_below hg1)
  have O1 := hide (hO.base (B' := w.heap.size) (by simp))
  clear hg1 hO
  go_wp2
  go_ret
  exact ⟨v, rfl, O1.out, B1.out⟩

set_option maxRecDepth 100000 in
set_option maxHeartbeats 1000000 in
theorem drawEncodeChunk_any (a : Option Addr) (n cap : Nat) (w : World) (h : Slb w w.heap.size a n) (hn : n ≤ 1048576) :
    Calls Tryd.prog 34 #[.slice a n cap] w fun e w' => ∃ v, e = .returned v ∧ OwnSmps w' w.heap.size v ∧ Below w.heap.size w w' := by
  have HC := hide (drawGoodSamples_any a n cap w h hn)
  clear h
  go_enter Tryd.func34, Tryd.ntmps34
  go_wp2_with fail
  refine HC.out.mono ?_
  rintro e w1 ⟨v, rfl, hO, hb⟩
  have B1 := hide hb
  have O1 := hide hO
  clear hb hO
  go_wp2
  go_ret
  exact ⟨v, rfl, O1.out, B1.out⟩

set_option maxRecDepth 100000 in
set_option maxHeartbeats 1000000 in
theorem drawDecodeChunk_any (a : Option Addr) (n cap : Nat) (w : World) (h : Slb w w.heap.size a n) (hn : n ≤ 1048576) :
    Calls Tryd.prog 43 #[.slice a n cap] w fun e w' => ∃ u : ByteArray, e = .returned (.string u) ∧ u.size ≤ 488 ∧ Below w.heap.size w w' := by
  have HC := hide (cur_new (cap := cap) h hn)
  clear h
  go_enter Tryd.func43, Tryd.ntmps43
  go_wp2_with fail
  refine (chunk_any _ 0 _ HC.out (by omega)).mono ?_
  rintro e w1 ⟨u, rfl, hu, _, hg1⟩
  have B1 := hide (grown_to_below hg1)
  clear hg1
  go_wp2
  go_ret
  exact ⟨u, rfl, hu, B1.out⟩

set_option maxRecDepth 100000 in
set_option maxHeartbeats 1000000 in
theorem drawRangeOf_any (a : Option Addr) (n cap : Nat) (w : World) (h : Slb w w.heap.size a n) (hn : n ≤ 1048576) :
    Calls Tryd.prog 50 #[.slice a n cap] w fun e w' => ∃ (u : ByteArray) (x y : Int), e = .returned (.tuple #[.string u, .int .i64 x, .int .i64 y]) ∧ u.size ≤ 488 ∧ 0 ≤ x ∧ x ≤ 99 ∧ -20 ≤ y ∧ y ≤ 300 ∧ Below w.heap.size w w' := by
  have HC := hide (cur_new (cap := cap) h hn)
  clear h
  go_enter Tryd.func50, Tryd.ntmps50
  go_wp2_with fail
  refine (pick_any _ 0 100 _ HC.out (by omega) (by omega) (by omega)).mono ?_
  rintro e w1 ⟨x, rfl, hx0, _, hx1, hc1, hg1⟩
  have hx1' := hx1 (by omega)
  have C1 := hide hc1
  have G1 := hide hg1
  clear hc1 hg1 hx1
  go_wp2_with fail
  refine (chunk_any _ _ _ C1.out (by omega)).mono ?_
  rintro e w2 ⟨u, rfl, hu, hc2, hg2⟩
  have C2 := hide hc2
  have G2 := hide (grown_trans G1.out hg2)
  clear hc2 hg2 C1 G1
  go_wp2_with fail
  refine (pick_any _ _ 200 _ C2.out (by omega) (by omega) (by omega)).mono ?_
  rintro e w3 ⟨y, rfl, hy0, _, hy1, hc3, hg3⟩
  have hy1' := hy1 (by omega)
  have B3 := hide (grown_to_below (grown_trans G2.out hg3))
  clear hc3 hg3 hy1 C2 G2
  go_wp2
  go_ret3
  exact ⟨u, x, x + y - 20, rfl, hu, hx0, by omega, by omega, by omega, B3.out⟩
end Go.Proofs.YtapffbbmofhpoaaDoor.L1
