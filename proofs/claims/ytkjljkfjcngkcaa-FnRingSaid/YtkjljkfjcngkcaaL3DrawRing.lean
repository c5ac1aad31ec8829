/-
  Contract: the draws' own ring: some tokens, at most forty, that the caller owns.
-/
import Derived.Test.YtkjljkfjcngkcaaL3Put
import Derived.Test.YtkjljkfjcngkcaaL3AddNil
import Derived.Test.YtkjljkfjcngkcaaL3Cur
namespace Go.Proofs.Ytkjljkfjcngkcaa.L3
open Go.RowKit L1
set_option linter.unusedVariables false

theorem own_grownG {w w' : World} {base n b c : Nat} {t : TypeId} {v : Value} {ys : List Value} (h : w.ownsRow base t c v n ys) (hg : w.grownBy w' (some b)) (hb : b < base) : w'.ownsRow base t c v n ys := by
  refine ⟨h.1, ?_⟩
  rcases h.2 with h0 | ⟨g, cap, cur, rfl, hbg, hgg, r⟩
  · exact .inl h0
  · exact .inr ⟨g, cap, cur, rfl, hbg, by rw [hg.block g (Array.getElem?_eq_some_iff.1 hgg).1 (fun e => by cases e; omega)]; exact hgg, r⟩
theorem OwnInts.grown {w w' : World} {B b m : Nat} {v : Value} (h : OwnInts w B v m) (hg : w.grownBy w' (some b)) (hb : b < B) : OwnInts w' B v m := by
  obtain ⟨xs, hl, ho⟩ := h
  exact ⟨xs, hl, own_grownG ho hg hb⟩
theorem OwnInts.below {w w' : World} {B m : Nat} {v : Value} (h : OwnInts w B v m) (hb : Below w.heap.size w w') : OwnInts w' B v m := by
  obtain ⟨xs, hl, ho⟩ := h
  exact ⟨xs, hl, own_belowT ho hb⟩
theorem OwnInts.nil (w : World) (B m : Nat) : OwnInts w B (.slice none 0 0) m := ⟨[], by simp, World.ownsRow_nil _ _ _ _⟩
/-- Some tokens that the caller owns. -/
def OwnToks (w : World) (B : Nat) (v : Value) : Prop := ∃ l : List (Int × Int), l.length ≤ 40 ∧ w.ownsRow B 55 2 v l.length (flat l)
theorem OwnToks.grown {w w' : World} {B b : Nat} {v : Value} (h : OwnToks w B v) (hg : w.grownBy w' (some b)) (hb : b < B) : OwnToks w' B v := by
  obtain ⟨xs, hl, ho⟩ := h
  exact ⟨xs, hl, own_grownG ho hg hb⟩
theorem OwnToks.below {w w' : World} {B : Nat} {v : Value} (h : OwnToks w B v) (hb : Below w.heap.size w w') : OwnToks w' B v := by
  obtain ⟨xs, hl, ho⟩ := h
  exact ⟨xs, hl, own_belowT ho hb⟩
theorem OwnToks.nil (w : World) (B : Nat) : OwnToks w B (.slice none 0 0) := ⟨[], by simp, World.ownsRow_nil _ _ _ _⟩

/-- spec.AddOwner over what the caller owns. -/
theorem specAdd_own {B1 B2 : Nat} (v vp : Value) (l : List (Int × Int)) (ps : List Int) (o : Int) (w : World) (hl : l.length ≤ 1048576) (ho : w.ownsRow B1 55 2 v l.length (flat l)) (hm : ps.length ≤ 1048576) (hp : w.ownsRow B2 3 1 vp ps.length (ps.map (Value.int .i64))) :
    Calls Try.prog 6 #[v, .int .i64 o, vp] w fun e w' => RetT w (addRes l o ps) e w' := by
  obtain ⟨ap, pcap, rfl, hsp, _⟩ := own_form hp
  rcases ho.2 with ⟨hv, h0⟩ | ⟨g, cap, cur, hv, _⟩
  · subst hv
    exact specAdd_none l (List.eq_nil_of_length_eq_zero h0) o ap ps ps.length pcap w rfl hsp hm _ rfl
  · subst hv
    exact specAdd_some g 0 l l.length cap o ap ps ps.length pcap w rfl (own_sl2 ho) rfl hsp hl hm _ rfl
theorem addOwner_own {B1 B2 : Nat} (v vp : Value) (l : List (Int × Int)) (ps : List Int) (o : Int) (w : World) (hl : l.length ≤ 1048576) (ho : w.ownsRow B1 55 2 v l.length (flat l)) (hm : ps.length ≤ 1048576) (hp : w.ownsRow B2 3 1 vp ps.length (ps.map (Value.int .i64))) :
    Calls Try.prog 5 #[v, .int .i64 o, vp] w fun e w' => RetT w (addRes l o ps) e w' := by
  obtain ⟨ap, pcap, rfl, hsp, _⟩ := own_form hp
  rcases ho.2 with ⟨hv, h0⟩ | ⟨g, cap, cur, hv, _⟩
  · subst hv
    exact addOwner_none l (List.eq_nil_of_length_eq_zero h0) o ap ps ps.length pcap w rfl hsp hm _ rfl
  · subst hv
    exact addOwner_some g 0 l l.length cap o ap ps ps.length pcap w rfl (own_sl2 ho) rfl hsp hl hm _ rfl

theorem grown_set {a w : World} {r : Option Nat} {g i : Nat} {v : Value} (h : a.grownBy w r) (hg : a.heap.size ≤ g) : a.grownBy (w.setCell ⟨g, i, none⟩ v) r := by
  have hb := (Below.refl a.heap.size w).setCell (p := ⟨g, i, none⟩) hg v
  exact ⟨hb.os.trans h.os, hb.tape.trans h.tape, hb.output.trans h.output, Nat.le_trans h.size hb.size, fun k hk hn => (hb.block k hk).trans (h.block k hk hn)⟩
theorem grown_below_r {a b c : World} {r : Option Nat} (h : a.grownBy b r) (k : Below b.heap.size b c) : a.grownBy c r := grown_trans h (below_grown k)

set_option maxRecDepth 100000 in
set_option maxHeartbeats 4000000 in
theorem ring_any (b N : Nat) (w : World) (h : Cur w b N) (hN : N ≤ 1000000) :
    Calls Try.prog 22 #[.pointer (some ⟨b, 0, none⟩)] w fun e w' => ∃ v, e = .returned v ∧ OwnToks w' w.heap.size v ∧ Cur w' b (N + 1000) ∧ w.grownBy w' (some b) := by
  have hbw := h.lt
  have HC := hide h
  clear h
  go_enter Try.func22, Try.ntmps22
  go_wp2_with fail
  refine (pick_any b N 5 _ HC.out (by omega) (by omega) (by omega)).mono ?_
  rintro e w1 ⟨o0, rfl, ho0, _, ho5, hc1, hg1⟩
  have ho5' := ho5 (by omega)
  obtain ⟨k0, rfl⟩ : ∃ k0 : Nat, o0 = (k0 : Int) := ⟨o0.toNat, by omega⟩
  have C1 := hide hc1
  have G1 := hide hg1
  clear hc1 hg1 ho5 ho0
  go_wp2
  go_loopw [3, 4] (fun rv ov wr => ∃ k : Nat, k ≤ 4 ∧ ov = .int .i64 k ∧ OwnToks wr w.heap.size rv ∧ Cur wr b (N + 2 + 30 * (4 - k)) ∧ w.grownBy wr (some b)) (fun _ ov _ => (intOf ov).toNat)
  case atStart => exact ⟨k0, by omega, rfl, OwnToks.nil _ _, C1.out.mono (by omega), G1.out⟩
  case round =>
    obtain ⟨k, hk, rfl, hT, hC, hG⟩ := hrel
    have HT := hide hT
    have HCC := hide hC
    have HG := hide hG
    have hsz := hG.size
    clear hC hG
    by_cases hk0 : 0 < (k : Int)
    · clear hT
      go_wp2_with fail
      refine (pick_any b _ 4 _ HCC.out (by omega) (by omega) (by omega)).mono ?_
      rintro e w2 ⟨n0, rfl, hn0, _, hn4, hc2, hg2⟩
      have hn4' := hn4 (by omega)
      obtain ⟨m0, rfl⟩ : ∃ m0 : Nat, n0 = (m0 : Int) := ⟨n0.toNat, by omega⟩
      have HT2 := hide (HT.out.grown hg2 hbw)
      have C2 := hide hc2
      have G2 := hide (grown_trans HG.out hg2)
      clear hc2 hg2 hn4 hn0 HT HG
      go_wp2
      go_loopw [5, 6] (fun av nv wr => ∃ j : Nat, j ≤ 4 ∧ nv = .int .i64 j ∧ OwnInts wr w.heap.size av (4 - j) ∧ Hid (OwnToks wr w.heap.size u3) ∧ Cur wr b (N + 2 + 30 * (4 - k) + 2 + 4 * (4 - j)) ∧ w.grownBy wr (some b)) (fun _ nv _ => (intOf nv).toNat)
      case atStart => exact ⟨m0 + 1, by omega, by go_num, OwnInts.nil _ _ _, HT2.out, C2.out.mono (by omega), G2.out⟩
      case round =>
        obtain ⟨j, hj, rfl, hA, HT3, hC, hG⟩ := hrel
        have HA := hide hA
        have HC3 := hide hC
        have HG3 := hide hG
        have hsz3 := hG.size
        clear hA hC hG HT2 C2 G2 HCC
        by_cases hj0 : 0 < (j : Int)
        · obtain ⟨xa, hal, hao⟩ := HA.out
          obtain ⟨aa, acap, rfl⟩ := own_shapeP hao
          clear hal hao
          go_wp2_with fail
          refine (pick_any b _ 256 _ HC3.out (by omega) (by omega) (by omega)).mono ?_
          rintro e w4 ⟨x1, rfl, hx1, hx1', _, hc4, hg4⟩
          have A4 := hide (HA.out.grown hg4 hbw)
          have T4 := hide (HT3.out.grown hg4 hbw)
          have C4 := hide hc4
          have G4 := hide (grown_trans HG3.out hg4)
          clear hc4 hg4
          go_wp2_with fail
          refine (pick_any b _ 4 _ C4.out (by omega) (by omega) (by omega)).mono ?_
          rintro e w5 ⟨x2, rfl, hx2, hx2', _, hc5, hg5⟩
          have A5 := hide (A4.out.grown hg5 hbw)
          have T5 := hide (T4.out.grown hg5 hbw)
          have C5 := hide hc5
          have G5 := hide (grown_trans G4.out hg5)
          have hz5 := G5.out.size
          clear hc5 hg5
          go_wp2_with fail
          refine (put_any _ (4 - j) _ w.heap.size _ hz5 (by omega) A5.out).mono ?_
          rintro e w6 ⟨v6, rfl, hA6, hb6⟩
          have A6 := hide hA6
          have T6 := hide (T5.out.below hb6)
          have C6 := hide (C5.out.below hb6)
          have G6 := hide (grown_below_r G5.out hb6)
          clear hA6 hb6
          go_wp2
          go_roundw
          case rel => exact ⟨j - 1, by omega, by congr 1; omega, by have := A6.out; rwa [show 4 - j + 1 = 4 - (j - 1) by omega] at this, T6.out, C6.out.mono (by omega), G6.out⟩
          case measure => simp [intOf]; omega
        · go_wp2_with fail
          refine (pick_any b _ 8 _ HC3.out (by omega) (by omega) (by omega)).mono ?_
          rintro e w4 ⟨x1, rfl, hx1, hx1', _, hc4, hg4⟩
          have A4 := hide (HA.out.grown hg4 hbw)
          have T4 := hide (HT3.out.grown hg4 hbw)
          have C4 := hide hc4
          have G4 := hide (grown_trans HG3.out hg4)
          have hz4 := G4.out.size
          clear hc4 hg4
          obtain ⟨l, hl, ho⟩ := T4.out
          obtain ⟨ps, hpl, hpo⟩ := A4.out
          have CC := specAdd_own _ _ l ps x1 w4 (by omega) ho (by omega) hpo
          have hrl := addRes_len l x1 ps
          obtain ⟨r, hr⟩ : ∃ r, r = addRes l x1 ps := ⟨_, rfl⟩
          rw [← hr] at CC hrl
          have HCC := hide CC
          clear CC hr ho hpo hl hpl
          cases r with
          | none =>
            clear hrl
            go_wp2_with fail
            refine HCC.out.mono ?_
            rintro e w5 ⟨v5, rfl, ho5, hb5⟩
            have T5 := hide (T4.out.below hb5)
            have C5 := hide (C4.out.below hb5)
            have G5 := hide (grown_below_r G4.out hb5)
            clear ho5 hb5
            go_wp2
            go_roundw
            case rel => exact ⟨k - 1, by omega, by congr 1; omega, T5.out, C5.out.mono (by omega), G5.out⟩
            case measure => simp [intOf]; omega
          | some s =>
            go_wp2_with fail
            refine HCC.out.mono ?_
            rintro e w5 ⟨v5, rfl, ho5, hb5⟩
            have T5 : Hid (OwnToks w5 w.heap.size v5) := ⟨s, hrl, own_baseT ho5 hz4⟩
            have C5 := hide (C4.out.below hb5)
            have G5 := hide (grown_below_r G4.out hb5)
            clear ho5 hb5 hrl
            go_wp2
            go_roundw
            case rel => exact ⟨k - 1, by omega, by congr 1; omega, T5.out, C5.out.mono (by omega), G5.out⟩
            case measure => simp [intOf]; omega
    · obtain ⟨l, hl, ho⟩ := hT
      have HO := hide ho
      rcases ho.2 with ⟨hv, h0⟩ | ⟨g, cap, cur, hv, hgb, hgh, _⟩
      · subst hv
        clear ho h0 hl HO
        go_wp2
        go_ret
        exact ⟨_, rfl, HT.out, HCC.out.mono (by omega), HG.out⟩
      · subst hv
        by_cases hl0 : 0 < (l.length : Int)
        · clear ho hgh
          go_wp2_with fail
          refine (one_any b _ 30 _ HCC.out (by omega) (by omega) (by omega)).mono ?_
          rintro e w4 ⟨t, rfl, hc4, hg4⟩
          have T4 := hide (HT.out.grown hg4 hbw)
          have O4 := hide (own_grownG HO.out hg4 hbw)
          have C4 := hide hc4
          have G4 := hide (grown_trans HG.out hg4)
          have hz4 := G4.out.size
          clear hc4 hg4
          cases t with
          | false =>
            go_wp2
            go_ret
            exact ⟨_, rfl, T4.out, C4.out.mono (by omega), G4.out⟩
          | true =>
            have SA := hide (lit_row w4 #[.int .i64 (-1), .int .i64 1008, .int .i64 1009] [-1, 1008, 1009] rfl)
            have CA := hide (C4.out.alloc (.cells #[.int .i64 (-1), .int .i64 1008, .int .i64 1009] 3))
            have hbw4 := C4.out.lt
            go_wp2_with fail
            refine (among_any b _ w4.heap.size 3 3 [-1, 1008, 1009] _ CA.out (by omega) rfl (by omega) (by omega) (by omega) SA.out).mono ?_
            rintro e w5 ⟨i5, hi5, rfl, hc5, hg5⟩
            obtain ⟨x, hx⟩ : ∃ x, x = [(-1 : Int), 1008, 1009].getD i5 0 := ⟨_, rfl⟩
            rw [← hx]
            have hg45 := grown_trans (grown_alloc w4 (.cells #[.int .i64 (-1), .int .i64 1008, .int .i64 1009] 3) b) hg5
            have ho5 := own_grownG O4.out hg45 hbw
            have C5 := hide hc5
            have G5 := hide (grown_trans G4.out hg45)
            have hlf : (flat l).length = l.length * 2 := flat_len l
            have hcl := ho5.cellAt 0 (by omega)
            have hfr := ho5.frozenAt 0
            obtain ⟨u, hu⟩ : ∃ u, w5.cell? ⟨g, 0, none⟩ = some u := ⟨_, hcl.trans (List.getElem?_eq_getElem (by omega))⟩
            have hst := ho5.stored 0 (.int .i64 x)
            have T6 : Hid (OwnToks (w5.setCell ⟨g, 0, none⟩ (.int .i64 x)) w.heap.size (.slice (some ⟨g, 0, none⟩) l.length cap)) := by
              cases l with
              | nil => simp at hl0
              | cons p l =>
                refine ⟨(x, p.2) :: l, by simpa using hl, ?_⟩
                have := hst.1
                simpa [flat] using this
            have hgb2 : b < g := by omega
            have C6 : Hid (Cur (w5.setCell ⟨g, 0, none⟩ (.int .i64 x)) b (N + 1000)) := (C5.out.kept fun k hk => ((Below.refl g w5).setCell (p := ⟨g, 0, none⟩) (Nat.le_refl _) (.int .i64 x)).block k (by omega)).mono (by omega)
            have G6 := hide (grown_set (i := 0) (v := .int .i64 x) G5.out hgb)
            clear hx hc5 hg5 hg45 ho5 hlf hcl hst
            go_wp2
            go_ret
            exact ⟨_, rfl, T6.out, C6.out, G6.out⟩
        · clear ho hgh
          go_wp2
          go_ret
          exact ⟨_, rfl, HT.out, HCC.out.mono (by omega), HG.out⟩
end Go.Proofs.Ytkjljkfjcngkcaa.L3
