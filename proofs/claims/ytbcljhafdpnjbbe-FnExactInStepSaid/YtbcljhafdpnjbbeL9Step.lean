/-
  What InStep answers, and the contracts: slices.Equal at entries, (*impl.Repl).isLikeLeader, impl.InStep.
-/
import Derived.Test.YtbcljhafdpnjbbeL9Good
import Derived.Test.YtbcljhafdpnjbbeL8Rise
import Derived.Test.YtbcljhafdpnjbbeL7EntTo
import Derived.Deep.RegionHeld3
import Derived.Deep.QuietTactic
import Derived.BigQuiet
namespace Go.Proofs.Ytbcljhafdpnjbbe.L9
open Go.RowKit L1 L7
set_option linter.unusedVariables false

structure StpIs (G : List (List En)) (nd : Nat) (ld ep : Int) (sy : List Int) (ce : List En) (k : Int) (rr ok : Bool) : Prop where
  yes : GoodR G nd ld ep sy ce ∧ 0 ≤ k ∧ k < (G.length : Int) → ok = true ∧ (rr = true ↔ gg G k = gg G ld)
  no : ¬ (GoodR G nd ld ep sy ce ∧ 0 ≤ k ∧ k < (G.length : Int)) → ok = false ∧ rr = false
theorem instep_is (G : List (List En)) (nd : Nat) (ld ep : Int) (sy : List Int) (ce : List En) (k : Int) : ∃ rr ok, StpIs G nd ld ep sy ce k rr ok := by
  classical
  by_cases h : GoodR G nd ld ep sy ce ∧ 0 ≤ k ∧ k < (G.length : Int)
  · exact ⟨decide (gg G k = gg G ld), true, fun _ => ⟨rfl, by simp⟩, fun h2 => absurd h h2⟩
  · exact ⟨false, false, fun h2 => absurd h2 h, fun _ => ⟨rfl, rfl⟩⟩
theorem below_drew9 {N : Nat} {w w' : World} (h : Below N w w') : ∀ q, Below N w (w'.drewN q)
  | 0 => h
  | q + 1 => (below_drew9 h q).drew
theorem text_ne9 {a b : ByteArray} (h : a ≠ b) : (a.toList == b.toList) = false := by
  have : ¬ a.toList = b.toList := fun e => h (by
    apply ByteArray.ext
    apply Array.toList_inj.1
    rw [← ByteArray.toList_eq, ← ByteArray.toList_eq, e])
  simpa using this
set_option maxRecDepth 100000 in
set_option maxHeartbeats 2000000 in
theorem equalE_any (a b : Option Addr) (l m : List En) (n k c1 c2 : Nat) (w : World) (hn : l.length = n) (hm : m.length = k) (ha : SlE w a l) (hb : SlE w b m) (hn2 : n ≤ 1048576) (hk2 : k ≤ 1048576) (bb : Bool) (hbb : bb = true ↔ l = m) :
    Calls Try.prog 38 #[.slice a n c1, .slice b k c2] w fun e w' => e = .returned (.bool bb) ∧ Below w.heap.size w w' := by
  have HA := hide ha
  have HB := hide hb
  have HN := hide hn
  have HM := hide hm
  have HBB := hide hbb
  clear ha hb hn hm hbb
  by_cases hnm : n = k
  · subst hnm
    go_enter Try.func38, Try.ntmps38
    go_wp2
    go_loopw [13] (fun i wr => ∃ k : Nat, k ≤ n ∧ i = .int .i64 k ∧ Hid (∀ j, j < k → l.getD j eE = m.getD j eE) ∧ Below w.heap.size w wr) (fun i _ => n - (intOf i).toNat)
    case atStart => exact ⟨0, Nat.zero_le _, rfl, fun j hj => absurd hj (Nat.not_lt_zero _), Below.refl _ _⟩
    case round =>
      obtain ⟨j, hk, rfl, HJ, hbel⟩ := hrel
      by_cases hlt : j < n
      · have h1I : (j : Int) < (n : Int) := by omega
        obtain ⟨b1, o1, rfl, p1, p2⟩ := HA.out j (by rw [HN.out]; exact hlt)
        obtain ⟨b2, o2, rfl, p3, p4⟩ := HB.out j (by rw [HM.out]; exact hlt)
        have g1 := (hbel.cell (p := ⟨b1, o1 + j * 2, none⟩) (blk_lt p1)).trans p1
        have g2 := (hbel.cell (p := ⟨b1, o1 + j * 2 + 1, none⟩) (blk_lt p2)).trans p2
        have g3 := (hbel.cell (p := ⟨b2, o2 + j * 2, none⟩) (blk_lt p3)).trans p3
        have g4 := (hbel.cell (p := ⟨b2, o2 + j * 2 + 1, none⟩) (blk_lt p4)).trans p4
        have hj0 : (0 : Int) ≤ (j : Int) := by omega
        obtain ⟨x, hx⟩ : ∃ x, x = (l.getD j eE).1 := ⟨_, rfl⟩
        obtain ⟨y, hy⟩ : ∃ y, y = (l.getD j eE).2 := ⟨_, rfl⟩
        obtain ⟨u, hu⟩ : ∃ u, u = (m.getD j eE).1 := ⟨_, rfl⟩
        obtain ⟨v, hv⟩ : ∃ v, v = (m.getD j eE).2 := ⟨_, rfl⟩
        rw [← hx] at g1
        rw [← hy] at g2
        rw [← hu] at g3
        rw [← hv] at g4
        have HXY : Hid (l.getD j eE = (x, y)) := by show _ = _; rw [hx, hy]
        have HUV : Hid (m.getD j eE = (u, v)) := by show _ = _; rw [hu, hv]
        have B0 := hide hbel
        clear p1 p2 p3 p4 hx hy hu hv hbel
        by_cases e1 : x = u
        · subst e1
          have f1 : (x == x) = true := by simp
          by_cases e2 : y = v
          · subst e2
            have f2 : (y.toList == y.toList) = true := by simp
            have HJ2 : Hid (∀ q, q < j + 1 → l.getD q eE = m.getD q eE) := fun q hq => by
              by_cases e : q = j
              · rw [e, HXY.out, HUV.out]
              · exact HJ.out q (by omega)
            go_wp2
            go_quiet (fail)
            go_wp2
            go_roundw
            case rel => exact ⟨j + 1, by omega, by go_num, HJ2.out, below_drew9 B0.out _⟩
            case measure => simp [intOf]; omega
          · have f2 : (y.toList == v.toList) = false := text_ne9 e2
            have E : Hid (bb = false) := bool_noT HBB.out (fun h => e2 (by have h1 := HXY.out; rw [h, HUV.out] at h1; exact (congrArg Prod.snd h1).symm))
            clear e2
            go_wp2
            go_quiet (fail)
            go_wp2
            go_ret
            exact ⟨by rw [E.out]; rfl, below_drew9 B0.out _⟩
        · have f1 : (x == u) = false := by simpa using e1
          have E : Hid (bb = false) := bool_noT HBB.out (fun h => e1 (by have h1 := HXY.out; rw [h, HUV.out] at h1; exact (congrArg Prod.fst h1).symm))
          clear e1
          go_wp2
          go_quiet (fail)
          go_wp2
          go_ret
          exact ⟨by rw [E.out]; rfl, below_drew9 B0.out _⟩
      · obtain rfl : j = n := by omega
        have hltI : ¬ (j : Int) < (j : Int) := by omega
        have E : Hid (bb = true) := HBB.out.2 (list_sameE HM.out HN.out (fun q hq => HJ.out q hq))
        go_wp2
        go_ret
        exact ⟨by rw [E.out]; rfl, hbel⟩
  · have E : Hid (bb = false) := bool_noT HBB.out (fun h => hnm (by rw [← HN.out, ← HM.out, h]))
    have hI : ((n : Int) != (k : Int)) = true := by simp; omega
    go_enter Try.func38, Try.ntmps38
    go_wp2
    go_ret
    exact ⟨by rw [E.out]; rfl, Below.refl _ _⟩
set_option maxRecDepth 100000 in
set_option maxHeartbeats 2000000 in
theorem isLike_any (gb : Nat) (ag : Option Addr) (n cg : Nat) (ad : Option Addr) (nd cd : Nat) (ld ep : Int) (ay : Option Addr) (ny cy : Nat) (ac : Option Addr) (nc cc : Nat) (G : List (List En)) (sy : List Int) (ce : List En) (k : Int) (w : World) (hz : RpZ G sy ce n nd ny nc) (hs : RpS w ag ay ac G sy ce) (hblk : w.heap[gb]? = some (rpO ag n cg ad nd cd ld ep ay ny cy ac nc cc)) (hk : 0 ≤ k ∧ k < (n : Int)) (hl : 0 ≤ ld ∧ ld < (n : Int)) (bb : Bool) (hbb : bb = true ↔ gg G k = gg G ld) :
    Calls Try.prog 21 #[.pointer (some ⟨gb, 0, none⟩), .int .i64 k] w fun e w' => e = .returned (.bool bb) ∧ Below w.heap.size w w' := by
  obtain ⟨k0, k1, k2, k3, k4, k5⟩ := blk6 hblk
  have hn := hz.hn
  obtain ⟨b, off, rfl, i, ai, ci, hi, hin, hci, hsi⟩ := hs.g.at' k hk.1 (by omega)
  obtain ⟨b', off', hba, j, aj, cj, hj, hjn, hcj, hsj⟩ := hs.g.at' ld hl.1 (by omega)
  cases hba
  subst hi
  subst hj
  have h1 := hz.ls i hin
  have h2 := hz.ls j hjn
  obtain ⟨l, hll⟩ : ∃ l, l = gg G (i : Int) := ⟨_, rfl⟩
  obtain ⟨m, hmm⟩ : ∃ m, m = gg G (j : Int) := ⟨_, rfl⟩
  rw [← hll] at hci hsi hbb
  rw [← hmm] at hcj hsj hbb
  rw [show G.getD i [] = l from hll.symm] at h1
  rw [show G.getD j [] = m from hmm.symm] at h2
  obtain ⟨p, hp⟩ : ∃ p, p = l.length := ⟨_, rfl⟩
  obtain ⟨q, hq⟩ : ∃ q, q = m.length := ⟨_, rfl⟩
  rw [← hp] at hci h1
  rw [← hq] at hcj h2
  have hiI : (i : Int) < (n : Int) := by omega
  have hi0 : (0 : Int) ≤ (i : Int) := by omega
  have hjI : (j : Int) < (n : Int) := by omega
  have hj0 : (0 : Int) ≤ (j : Int) := by omega
  have C := hide (fun wx (hb : Below w.heap.size w wx) => equalE_any ai aj l m p q ci cj wx hp.symm hq.symm (hsi.below hb) (hsj.below hb) h1 h2 bb hbb)
  clear hs hz hblk hll hmm hp hq hsi hsj hn hk hl hbb
  go_enter Try.func21, Try.ntmps21
  go_wp2
  refine wp_region_held_drew (S := fun wx => (wx.cell? ⟨gb, 0, none⟩ = some (.slice (some ⟨b, off, none⟩) n cg) ∧ wx.cell? ⟨gb, 2, none⟩ = some (.int .i64 (j : Int)) ∧ wx.cell? ⟨b, off + i, none⟩ = some (.slice ai p ci) ∧ wx.cell? ⟨b, off + j, none⟩ = some (.slice aj q cj)) ∧ Below w.heap.size w wx) (by kernel_rfl) ⟨⟨k0, k2, hci, hcj⟩, (Below.refl _ _).drew⟩ (fun hHeld => ?_)
  refine wpAnyH_take (i := 0) (v := ?v1) rfl (by kernel_rfl) (by kernel_rfl) (by kernel_rfl) (fun _ _ _ h => h) (Or.inl ⟨by rfl, ?y1⟩) (by assumption) ?r1
  case y1 => (intro w hSw; (try dsimp only at hSw); go_simp; try (with_reducible rfl))
  simp only [List.getElem_toArray, List.getElem_cons_zero, Act.put, List.setIfInBounds_toArray, List.set_cons_zero, List.set_cons_succ]
  refine wpAnyH_take (i := 1) (v := ?v2) rfl (by kernel_rfl) (by kernel_rfl) (by kernel_rfl) (fun _ _ _ h => h) (Or.inl ⟨by rfl, ?y2⟩) (by assumption) ?r2
  case y2 => (intro w hSw; (try dsimp only at hSw); go_simp; try (with_reducible rfl))
  simp only [List.getElem_toArray, List.getElem_cons_succ, List.getElem_cons_zero, Act.put, List.setIfInBounds_toArray, List.set_cons_zero, List.set_cons_succ]
  refine wpAnyH_take (i := 2) (v := ?v3) rfl (by kernel_rfl) (by kernel_rfl) (by kernel_rfl) (fun _ _ _ h => h) (Or.inl ⟨by rfl, ?y3⟩) (by assumption) ?r3
  case y3 => (intro w hSw; (try dsimp only at hSw); go_simp; try (with_reducible rfl))
  simp only [List.getElem_toArray, List.getElem_cons_succ, List.getElem_cons_zero, Act.put, List.setIfInBounds_toArray, List.set_cons_zero, List.set_cons_succ]
  refine wpAnyH_take (i := 3) (v := ?v4) rfl (by kernel_rfl) (by kernel_rfl) (by kernel_rfl) (fun _ _ _ h => h) (Or.inl ⟨by rfl, ?y4⟩) (by assumption) ?r4
  case y4 => (intro w hSw; (try dsimp only at hSw); go_simp; try (with_reducible rfl))
  simp only [List.getElem_toArray, List.getElem_cons_succ, List.getElem_cons_zero, Act.put, List.setIfInBounds_toArray, List.set_cons_zero, List.set_cons_succ]
  refine wpAnyH_take (i := 4) (v := ?v5) rfl (by kernel_rfl) (by kernel_rfl) (by kernel_rfl) (fun _ _ _ h => h) (Or.inl ⟨by rfl, ?y5⟩) (by assumption) ?r5
  case y5 => (intro w hSw; (try dsimp only at hSw); go_simp; try (with_reducible rfl))
  simp only [List.getElem_toArray, List.getElem_cons_succ, List.getElem_cons_zero, Act.put, List.setIfInBounds_toArray, List.set_cons_zero, List.set_cons_succ]
  refine wpAnyH_take (i := 5) (v := ?v6) rfl (by kernel_rfl) (by kernel_rfl) (by kernel_rfl) (fun _ _ _ h => h) (Or.inl ⟨by rfl, ?y6⟩) (by assumption) ?r6
  case y6 => (intro w hSw; (try dsimp only at hSw); go_simp; try (with_reducible rfl))
  simp only [List.getElem_toArray, List.getElem_cons_succ, List.getElem_cons_zero, Act.put, List.setIfInBounds_toArray, List.set_cons_zero, List.set_cons_succ]
  refine wpAnyH_take (i := 6) (v := ?v7) rfl (by kernel_rfl) (by kernel_rfl) (by kernel_rfl) (fun _ _ _ h => h) (Or.inl ⟨by rfl, ?y7⟩) (by assumption) ?r7
  case y7 => (intro w hSw; (try dsimp only at hSw); go_simp; try (with_reducible rfl))
  simp only [List.getElem_toArray, List.getElem_cons_succ, List.getElem_cons_zero, Act.put, List.setIfInBounds_toArray, List.set_cons_zero, List.set_cons_succ]
  refine wpAnyH_take (i := 7) (v := ?v8) rfl (by kernel_rfl) (by kernel_rfl) (by kernel_rfl) (fun _ _ _ h => h) (Or.inl ⟨by rfl, ?y8⟩) (by assumption) ?r8
  case y8 => (intro w hSw; (try dsimp only at hSw); go_simp; try (with_reducible rfl))
  simp only [List.getElem_toArray, List.getElem_cons_succ, List.getElem_cons_zero, Act.put, List.setIfInBounds_toArray, List.set_cons_zero, List.set_cons_succ]
  refine wpAnyH_take (i := 8) (v := ?v9) rfl (by kernel_rfl) (by kernel_rfl) (by kernel_rfl) (fun _ _ _ h => h) (Or.inl ⟨by rfl, ?y9⟩) (by assumption) ?r9
  case y9 => (intro w hSw; (try dsimp only at hSw); go_simp; try (with_reducible rfl))
  simp only [List.getElem_toArray, List.getElem_cons_succ, List.getElem_cons_zero, Act.put, List.setIfInBounds_toArray, List.set_cons_zero, List.set_cons_succ]
  refine wpAnyH_take (i := 9) (v := ?v10) rfl (by kernel_rfl) (by kernel_rfl) (by kernel_rfl) (fun _ _ _ h => h) (Or.inl ⟨by rfl, ?y10⟩) (by assumption) ?r10
  case y10 => (intro w hSw; (try dsimp only at hSw); go_simp; try (with_reducible rfl))
  simp only [List.getElem_toArray, List.getElem_cons_succ, List.getElem_cons_zero, Act.put, List.setIfInBounds_toArray, List.set_cons_zero, List.set_cons_succ]
  refine wpAnyH_take (i := 10) (v := ?v11) rfl (by kernel_rfl) (by kernel_rfl) (by kernel_rfl) (fun _ _ _ h => h) (Or.inl ⟨by rfl, ?y11⟩) (by assumption) ?r11
  case y11 => (intro w hSw; (try dsimp only at hSw); go_simp; try (with_reducible rfl))
  simp only [List.getElem_toArray, List.getElem_cons_succ, List.getElem_cons_zero, Act.put, List.setIfInBounds_toArray, List.set_cons_zero, List.set_cons_succ]
  refine wpAnyH_take (i := 11) (v := ?v12) rfl (by kernel_rfl) (by kernel_rfl) (by kernel_rfl) (fun _ _ _ h => h) (Or.inl ⟨by rfl, ?y12⟩) (by assumption) ?r12
  case y12 => (intro w hSw; (try dsimp only at hSw); go_simp; try (with_reducible rfl))
  simp only [List.getElem_toArray, List.getElem_cons_succ, List.getElem_cons_zero, Act.put, List.setIfInBounds_toArray, List.set_cons_zero, List.set_cons_succ]
  refine wpAnyH_take (i := 12) (v := ?v13) rfl (by kernel_rfl) (by kernel_rfl) (by kernel_rfl) (fun _ _ _ h => h) (Or.inl ⟨by rfl, ?y13⟩) (by assumption) ?r13
  case y13 => (intro w hSw; (try dsimp only at hSw); go_simp; try (with_reducible rfl))
  simp only [List.getElem_toArray, List.getElem_cons_succ, List.getElem_cons_zero, Act.put, List.setIfInBounds_toArray, List.set_cons_zero, List.set_cons_succ]
  refine wpAnyH_take (i := 13) (v := ?v14) rfl (by kernel_rfl) (by kernel_rfl) (by kernel_rfl) (fun _ _ _ h => h) (Or.inl ⟨by rfl, ?y14⟩) (by assumption) ?r14
  case y14 => (intro w hSw; (try dsimp only at hSw); go_simp; try (with_reducible rfl))
  simp only [List.getElem_toArray, List.getElem_cons_succ, List.getElem_cons_zero, Act.put, List.setIfInBounds_toArray, List.set_cons_zero, List.set_cons_succ]
  refine wpAnyH_take (i := 14) (v := ?v15) rfl (by kernel_rfl) (by kernel_rfl) (by kernel_rfl) (fun _ _ _ h => h) (Or.inl ⟨by rfl, ?y15⟩) (by assumption) ?r15
  case y15 => (intro w hSw; (try dsimp only at hSw); go_simp; try (with_reducible rfl))
  simp only [List.getElem_toArray, List.getElem_cons_succ, List.getElem_cons_zero, Act.put, List.setIfInBounds_toArray, List.set_cons_zero, List.set_cons_succ]
  refine wpAnyH_take (i := 15) (v := ?v16) rfl (by kernel_rfl) (by kernel_rfl) (by kernel_rfl) (fun _ _ _ h => h) (Or.inl ⟨by rfl, ?y16⟩) (by assumption) ?r16
  case y16 => (intro w hSw; (try dsimp only at hSw); go_simp; try (with_reducible rfl))
  simp only [List.getElem_toArray, List.getElem_cons_succ, List.getElem_cons_zero, Act.put, List.setIfInBounds_toArray, List.set_cons_zero, List.set_cons_succ]
  refine wpAnyH_take (i := 16) (v := ?v17) rfl (by kernel_rfl) (by kernel_rfl) (by kernel_rfl) (fun _ _ _ h => h) (Or.inl ⟨by rfl, ?y17⟩) (by assumption) ?r17
  case y17 => (intro w hSw; (try dsimp only at hSw); go_simp; try (with_reducible rfl))
  simp only [List.getElem_toArray, List.getElem_cons_succ, List.getElem_cons_zero, Act.put, List.setIfInBounds_toArray, List.set_cons_zero, List.set_cons_succ]
  refine wpAnyH_ready (rs := [17]) (by kernel_rfl) (by simp) ?_
  refine AllReadyH.cons rfl (fun K hK => ?_) AllReadyH.nil
  simp only [List.getElem_toArray, List.getElem_cons_succ, List.getElem_cons_zero]
  go_simp
  go_at_call 38
  refine (C.out _ hHeld.2).mono ?_
  rintro e w1 ⟨rfl, hb⟩
  dsimp only
  refine hK.out _ _ ?_ (fun hHeld => ?_)
  · exact ⟨⟨(hb.cell (blk_lt9 hHeld.1.1)).trans hHeld.1.1, (hb.cell (blk_lt9 hHeld.1.2.1)).trans hHeld.1.2.1, (hb.cell (blk_lt9 hHeld.1.2.2.1)).trans hHeld.1.2.2.1, (hb.cell (blk_lt9 hHeld.1.2.2.2)).trans hHeld.1.2.2.2⟩, hHeld.2.trans (hb.mono hHeld.2.size)⟩
  clear hK K
  try simp only [Act.put, List.setIfInBounds_toArray, List.set_cons_zero, List.set_cons_succ]
  refine wpAnyH_take (i := 18) (v := ?v18) rfl (by kernel_rfl) (by kernel_rfl) (by kernel_rfl) (fun _ _ _ h => h) (Or.inl ⟨by rfl, ?y18⟩) (by assumption) ?r18
  case y18 => (intro w hSw; (try dsimp only at hSw); go_simp; try (with_reducible rfl))
  simp only [List.getElem_toArray, List.getElem_cons_succ, List.getElem_cons_zero, Act.put, List.setIfInBounds_toArray, List.set_cons_zero, List.set_cons_succ]
  refine wpAnyH_done (by kernel_rfl) ?_ _
  have B7 := hide hHeld.2
  clear hHeld
  go_wp2
  go_ret
  exact ⟨rfl, B7.out⟩
set_option maxRecDepth 100000 in
set_option maxHeartbeats 1000000 in
theorem implInStep_any (ag : Option Addr) (n cg : Nat) (ad : Option Addr) (nd cd : Nat) (ld ep : Int) (ay : Option Addr) (ny cy : Nat) (ac : Option Addr) (nc cc : Nat) (G : List (List En)) (sy : List Int) (ce : List En) (k : Int) (w : World) (hz : RpZ G sy ce n nd ny nc) (hs : RpS w ag ay ac G sy ce) (rr ok : Bool) (hr : StpIs G nd ld ep sy ce k rr ok) :
    Calls Try.prog 7 #[rpV ag n cg ad nd cd ld ep ay ny cy ac nc cc, .int .i64 k] w fun e w' => e = .returned (.tuple #[.bool rr, .bool ok]) ∧ Below w.heap.size w w' := by
  obtain ⟨bb, hbb⟩ : ∃ bb : Bool, bb = true ↔ GoodR G nd ld ep sy ce := by classical exact ⟨decide (GoodR G nd ld ep sy ce), by simp⟩
  obtain ⟨bi, hbi⟩ : ∃ bi : Bool, bi = true ↔ 0 ≤ k ∧ k < (n : Int) := ⟨decide (0 ≤ k ∧ k < (n : Int)), by simp⟩
  have BX := hide ((Below.refl w.heap.size w).alloc (Nat.le_refl _) (rpO ag n cg ad nd cd ld ep ay ny cy ac nc cc))
  have C1 := hide (fun wx (hb : Below w.heap.size w wx) => goodRepl_any ag n cg ad nd cd ld ep ay ny cy ac nc cc G sy ce wx hz (hs.below hb) bb hbb)
  have C2 := hide (fun wx => L8.isBelow_any k (n : Int) wx bi hbi)
  have HR := hide hr
  have HBB := hide hbb
  have HBI := hide hbi
  have HS := hide hs
  have HZ := hide hz
  clear hr hbb hbi hs hz
  go_enter Try.func7, Try.ntmps7
  go_wp2_with fail
  refine (C1.out _ BX.out).mono ?_
  rintro e w1 ⟨rfl, hb⟩
  have G1 := hide ((hb.block w.heap.size (by simp)).trans (blk_new9 _ _))
  have B1 := hide (BX.out.trans (hb.mono BX.out.size))
  clear hb C1 BX
  cases bb with
  | false =>
    obtain ⟨rfl, rfl⟩ := HR.out.no (fun h => by have := HBB.out.2 h.1; cases this)
    go_wp2
    go_ret2
    exact ⟨rfl, B1.out⟩
  | true =>
    have hgd := HBB.out.1 (by first | rfl | trivial)
    obtain ⟨k0, k1, k2, k3, k4, k5⟩ := blk6 G1.out
    have HG := hide hgd
    clear hgd
    go_wp2_with fail
    refine (C2.out _).mono ?_
    rintro e w2 ⟨rfl, rfl⟩
    cases bi with
    | false =>
      obtain ⟨rfl, rfl⟩ := HR.out.no (fun h => by have h2 := h.2; rw [HZ.out.hn] at h2; have := HBI.out.2 h2; cases this)
      go_wp2
      go_ret2
      exact ⟨rfl, B1.out⟩
    | true =>
      have hki := HBI.out.1 (by first | rfl | trivial)
      obtain ⟨rfl, hrr⟩ := HR.out.yes ⟨HG.out, by rw [HZ.out.hn]; exact hki⟩
      have hnd := HG.out.node
      rw [HZ.out.hn] at hnd
      have C3 := hide (isLike_any w.heap.size ag n cg ad nd cd ld ep ay ny cy ac nc cc G sy ce k w1 HZ.out (HS.out.below B1.out) G1.out hki hnd rr hrr)
      clear hki hrr hnd HR HBI HBB
      go_wp2_with fail
      refine C3.out.mono ?_
      rintro e w3 ⟨rfl, hb⟩
      have B3 := hide (B1.out.trans (hb.mono B1.out.size))
      clear hb
      go_wp2
      go_ret2
      exact ⟨rfl, B3.out⟩
end Go.Proofs.Ytbcljhafdpnjbbe.L9
