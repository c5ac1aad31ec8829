/-
  Contract: impl.fetchOne.
  Contract: (*impl.Repl).fetch.
  The library's contract for slices.BinarySearch over rising sets of ints, laid at this program's numbers: its bodies are the ones that the contract was proved of.
  Contracts: a rising set's cut, hasAt and leap: the first place from a place on with a number that is great enough.
  Contract: a rising set's chosen, those that the other has too, in new memory.
  Contract: spec.l1Has: whether a list has a number.
  Contracts: a rising set's chosen, those that the other has not; spec.l4Those: those of a list that another one has, or has not, in new memory.
  Contract: a rising set's without.
-/
import Derived.Test.YthmekhhfihjclbdBundle3
import Derived.Test.YthmekhhfihjclbdBundle5
import Derived.Test.YthmekhhfihjclbdBundle4
import Derived.Deep.RegionHeld3
import Derived.Deep.DeepCutAuto
import Derived.Shelf.SlicesG.SearchI
import Derived.Test.YthmekhhfihjclbdBundle2
namespace Go.Proofs.Ythmekhhfihjclbd.L9
open Go.RowKit L1 L7
set_option linter.unusedVariables false

theorem slE_cells {w w' : World} {a : Option Addr} {xs : List En} (h : SlE w a xs) (hw : Below w.heap.size w w') : SlE w' a xs := h.below hw
set_option maxRecDepth 100000 in
set_option maxHeartbeats 2000000 in
theorem fetchOne_any (a b : Option Addr) (l m : List En) (n c1 k c2 : Nat) (w : World) (hn : l.length = n) (hs : SlE w a l) (hn2 : n ≤ 1000) (hk : m.length = k) (ht : SlE w b m) (hk2 : k ≤ 1000) (hca : n ≤ c1) (hca0 : a = none → c1 = 0) (hl : Mono l) (hm : Mono m) (F : List En) (hF : F = ftc l m) (f : Nat) (hf : f = F.length) :
    Calls Try.prog 100 #[.slice a n c1, .slice b k c2] w fun e w' => ∃ a5 c5, e = .returned (.slice a5 f c5) ∧ w'.ownsRow w.heap.size 93 2 (.slice a5 f c5) f (flatE F) ∧ Below w.heap.size w w' := by
  have HS := hide hs
  have HT := hide ht
  have hbd := find_bd (l := l) hm
  obtain ⟨P, hP⟩ : ∃ P : Nat, (find l (sts m) m.length).1 = (P : Int) := ⟨(find l (sts m) m.length).1.toNat, by omega⟩
  have hPn : P ≤ n := by omega
  have hPk : P ≤ k := by omega
  unfold ftc at hF
  rw [hP, Int.toNat_natCast, hk] at hF
  obtain ⟨d1, S1⟩ := slice_to a n c1 P hPn hca hca0
  have CS := fun w ht => startsOf_any b m k c2 w hk ht (by omega)
  have hsl := sts_le m
  have CF := fun b c w hs ht => findPart_any a b l (sts m) n c1 _ c (m.length : Int) w hn hs (by omega) rfl ht (by omega) hl (sts_rise hm) (P : Int) (find l (sts m) m.length).2 (by rw [← hP])
  rw [hk] at hsl
  obtain ⟨Q, hQ⟩ : ∃ Q, Q = (find l (sts m) m.length).2 := ⟨_, rfl⟩
  simp only [← hQ] at CF
  simp only [hk] at CF
  obtain ⟨S, hS⟩ : ∃ S, S = sts m := ⟨_, rfl⟩
  simp only [RetS, ← hS] at CS
  simp only [← hS] at CF
  rw [← hS] at hsl
  obtain ⟨sn, hsn⟩ : ∃ sn, sn = S.length := ⟨_, rfl⟩
  simp only [← hsn] at CS CF
  have HCS := hide CS
  have HCF := hide CF
  have HTL : Hid ((l.take P).length = P) := by show (l.take P).length = P; simp; omega
  have HF := hide hF
  have HFL := hide hf
  have HK := hide hk
  clear hs hn ht hk CS CF hS hsn hQ hP hbd hsl hl hm hF hf
  go_enter Try.func100, Try.ntmps100
  go_wp2_with fail
  refine (HCS.out _ HT.out).mono ?_
  rintro e w3 ⟨v1, rfl, ho1, hq1⟩
  obtain ⟨sa, scap, rfl, hs1, _⟩ := own_formS ho1
  have B3 := hide hq1
  have S3' := hide (HS.out.below hq1)
  have T3 := hide (HT.out.below hq1)
  have P3 := hide hs1
  clear ho1 hs1 hq1
  go_wp2_with fail
  refine (HCF.out _ _ _ S3'.out P3.out).mono ?_
  rintro e w4 ⟨rfl, hq⟩
  have B4 := hide (B3.out.trans (hq.mono B3.out.size))
  have S4 := hide (S3'.out.below hq)
  have hz4 := B4.out.size
  clear hq S3' T3 B3 P3
  go_wp2_with (first
    | (at_builtin; refine wpList_append_ent rfl _ _ rfl w.heap.size _ _ 0 0 P d1 [] (l.take P) rfl HTL.out (by omega) (by omega) rfl (World.ownsRow_nil _ _ _ _) rfl (slE_take S4.out P) hz4 ?_)
    | go_in)
  intro a5 c5 w5 ho5 hg5
  have hb5 := (Below.refl w.heap.size w4).grown hg5 hz4 (fun g hg => by cases hg)
  have B5 := hide (B4.out.trans hb5)
  have HO5 : Hid (w5.ownsRow w.heap.size 93 2 (.slice a5 P c5) P (flatE (l.take P))) := ho5
  have hz5 := B5.out.size
  clear ho5 hg5 hb5
  by_cases hlt : P < k
  · have hltI : (P : Int) < (k : Int) := by omega
    have hP0 : (0 : Int) ≤ (P : Int) := by omega
    have hF' := HF.out
    rw [if_pos hltI] at hF'
    obtain ⟨bb, bo, rfl, h1, h2⟩ := HT.out P (by rw [HK.out]; exact hlt)
    have h1' := (B5.out.cell (p := ⟨bb, bo + P * 2, none⟩) (blk_lt h1)).trans h1
    have h2' := (B5.out.cell (p := ⟨bb, bo + P * 2 + 1, none⟩) (blk_lt h2)).trans h2
    obtain ⟨x, hx⟩ : ∃ x, x = m.getD P eE := ⟨_, rfl⟩
    rw [← hx] at h1' h2' hF'
    have HF2 := hide hF'
    obtain ⟨i0, hi, hz0, hz1, hz2⟩ := info_parts info_ent
    clear h1 h2 hx hF' HF
    go_wp2_with (first
      | (at_builtin; refine wpList_append_own _ rfl _ _ 30 rfl w.heap.size 93 i0 (.agg #[.int .i64 0, .string ByteArray.empty]) 2 24 Try.underlying30 hi hz0 hz1 hz2 rfl (by decide) _ _ _ rfl (HO5.out.alloc _) ⟨_, 0, none⟩ 1 1 [.int .i64 x.1, .string x.2] rfl rfl (cell_two_newT _ _ _ _) (by intro u hu; simp at hu; rcases hu with rfl | rfl <;> rfl) (by unfold maxLen; omega) (by omega) (by simp; omega) ?_)
      | go_in)
    intro v6 w6 ho6 hg6 hne6
    have hb6 := ((Below.refl w.heap.size w5).alloc hz5 _).grown hg6 (by simp; omega) (fun g hg => (HO5.out.lt g hg).1)
    have B6 := hide (B5.out.trans hb6)
    have hfl : f = P + 1 := by rw [HFL.out, HF2.out, List.length_append, HTL.out]; rfl
    have hfe : flatE F = flatE (l.take P) ++ [.int .i64 x.1, .string x.2] := by rw [HF2.out, flatE_append]; rfl
    obtain ⟨a6, c6, rfl⟩ : ∃ a6 c6, v6 = .slice a6 (P + 1) c6 := by
      rcases ho6.2 with ⟨hv, h0⟩ | ⟨g, cap, cur, hv, _⟩
      · omega
      · exact ⟨_, cap, hv⟩
    have HO6 : Hid (w6.ownsRow w.heap.size 93 2 (.slice a6 f c6) f (flatE F)) := by
      show World.ownsRow _ _ _ _ _ _ _
      rw [hfe, hfl]
      exact ho6
    have HFF := hide hfl
    clear ho6 hg6 hb6 hfl hfe hne6
    go_wp2
    go_ret
    exact ⟨a6, c6, by rw [HFF.out]; rfl, HO6.out, B6.out⟩
  · have hltI : ¬ (P : Int) < (k : Int) := by omega
    have hF' := HF.out
    rw [if_neg hltI, List.append_nil] at hF'
    have hfl : f = P := by rw [HFL.out, hF', HTL.out]
    have HFF := hide hfl
    have HF2 := hide hF'
    clear hF' hfl HF
    go_wp2
    go_ret
    exact ⟨a5, c5, by rw [HFF.out]; rfl, by rw [HFF.out, HF2.out]; exact HO5.out, B5.out⟩
end Go.Proofs.Ythmekhhfihjclbd.L9

namespace Go.Proofs.Ythmekhhfihjclbd.L9
open Go.RowKit L1 L7
set_option linter.unusedVariables false

set_option maxRecDepth 100000 in
set_option maxHeartbeats 2000000 in
theorem fetch_any (S : Nat → Prop) (b : Nat) (r : Rm) (w : World) (hI : Inv r) (hR : RB w S b r) (hS : ∀ q, S q → q < w.heap.size) (kd nd : Int) (t : ByteArray) (h0 : 0 ≤ nd) (h1 : nd < (r.G.length : Int)) (o : Option Rm) (ho : o = if nd ≠ r.ld ∧ r.down nd = false ∧ r.down r.ld = false then some { r with G := r.G.set nd.toNat (ftc (gg r.G nd) r.lead) } else none) :
    Calls Try.prog 83 #[.pointer (some ⟨b, 0, none⟩), .agg #[.int .i64 kd, .int .i64 nd, .string t]] w fun e w' => e = .returned (.bool o.isSome) ∧ Done S w b (o.getD r) w' := by
  obtain ⟨V, gb, cg, db, cd, ay, cy, ac, cc, hb, hW, hSb⟩ := hR.open hI
  have hnode := hI.node
  have hdn := hI.good.down
  have hn1 := hI.good.logs.1
  obtain ⟨i, rfl⟩ : ∃ i : Nat, nd = (i : Int) := ⟨nd.toNat, by omega⟩
  obtain ⟨j, hj⟩ : ∃ j : Nat, r.ld = (j : Int) := ⟨r.ld.toNat, by omega⟩
  obtain ⟨n, hn⟩ : ∃ n, n = r.G.length := ⟨_, rfl⟩
  obtain ⟨ny, hny⟩ : ∃ ny, ny = r.sy.length := ⟨_, rfl⟩
  obtain ⟨nc, hnc⟩ : ∃ nc, nc = r.ce.length := ⟨_, rfl⟩
  obtain ⟨E, hE⟩ : ∃ E, E = r.ep := ⟨_, rfl⟩
  have hin : i < n := by omega
  have hjn : j < n := by omega
  have ci := hW.downAt i (by omega)
  have cj := hW.downAt j (by omega)
  obtain ⟨k0, k1, k2, k3, k4, k5⟩ := blk6 hb
  rw [hdn, ← hn] at k1
  rw [← hn] at k0
  rw [hj] at k2
  rw [← hE] at k3
  rw [← hny] at k4
  rw [← hnc] at k5
  have hzz := rpz_of hI
  have BX := (Below.refl w.heap.size w).alloc (Nat.le_refl _) (Obj.cells #[.int .i64 kd, .int .i64 (i : Int), .string t] 50)
  have SX := blk_new9 w (Obj.cells #[.int .i64 kd, .int .i64 (i : Int), .string t] 50)
  obtain ⟨w1, hw1⟩ : ∃ w1, w1 = w.alloc (Obj.cells #[.int .i64 kd, .int .i64 (i : Int), .string t] 50) := ⟨_, rfl⟩
  have HW1 := hide hw1
  rw [← hw1] at BX SX
  clear hw1
  have s0 : w1.cell? ⟨w.heap.size, 0, none⟩ = some (.int .i64 kd) := by simp [World.cell?, SX]
  have s1 : w1.cell? ⟨w.heap.size, 1, none⟩ = some (.int .i64 (i : Int)) := by simp [World.cell?, SX]
  have s2 : w1.cell? ⟨w.heap.size, 2, none⟩ = some (.string t) := by simp [World.cell?, SX]
  have g0 := (BX.cell (blk_lt9 k0)).trans k0
  have g1 := (BX.cell (blk_lt9 k1)).trans k1
  have g2 := (BX.cell (blk_lt9 k2)).trans k2
  have g3 := (BX.cell (blk_lt9 k3)).trans k3
  have g4 := (BX.cell (blk_lt9 k4)).trans k4
  have g5 := (BX.cell (blk_lt9 k5)).trans k5
  have di := (BX.cell (blk_lt9 ci)).trans ci
  have dj := (BX.cell (blk_lt9 cj)).trans cj
  have hWx := hW.below BX
  have hbx : w1.heap[b]? = _ := (BX.block b (Array.getElem?_eq_some_iff.1 hb).1).trans hb
  have fb := fun c => frz hbx c
  have fg : ∀ c, w1.frozen? ⟨gb, c, none⟩ = false := fun c => own_frz hWx.g c
  have fd : ∀ c, w1.frozen? ⟨db, c, none⟩ = false := fun c => own_frz hWx.d c
  have hiI : (i : Int) < (n : Int) := by omega
  have hi0 : (0 : Int) ≤ (i : Int) := by omega
  have hjI : (j : Int) < (n : Int) := by omega
  have hj0 : (0 : Int) ≤ (j : Int) := by omega
  have HOF := hide ho
  have HRF := hide hR
  have HWF := hide hW
  have HBF := hide hb
  have BXF := hide BX
  have hy6 := hzz.y2
  rw [← hny] at hy6
  have hyr := rn_rise hI.good.rise
  obtain ⟨x, hx⟩ : ∃ x, x = r.dn.getD i false := ⟨_, rfl⟩
  have HX : Hid (r.down (i : Int) = x) := hide hx.symm
  rw [← hx] at di
  obtain ⟨y, hy⟩ : ∃ y, y = r.dn.getD j false := ⟨_, rfl⟩
  have HY : Hid (r.down r.ld = y) := hide (by rw [hj]; exact hy.symm)
  rw [← hy] at dj
  obtain ⟨bi, hbi⟩ : ∃ bi : Bool, bi = true ↔ (i : Int) ∈ r.sy := ⟨decide ((i : Int) ∈ r.sy), by simp⟩
  have HBI := hide hbi
  have HLD := hide hj
  have HEP := hide hE
  have he0 : 1 ≤ E := by rw [hE]; exact hI.good.e0
  have he1 : E ≤ 1000 := by rw [hE]; exact hI.good.e1
  have CI := hide (fun m => isIn_any b ay ny cy r.sy (i : Int) (w1.drewN m) g4 hny.symm (hWx.rps.1.y.below (below_drewN (Below.refl _ _) m)) hy6 bi hbi)
  have CL := hide (fun m => leaderDown_any b db n cd j y (w1.drewN m) g1 g2 hjn dj)

  obtain ⟨F, hF⟩ : ∃ F, F = ftc (r.G.getD i []) (r.G.getD j []) := ⟨_, rfl⟩
  obtain ⟨f, hf⟩ : ∃ f, f = F.length := ⟨_, rfl⟩
  have HFF := hide hF
  have HFL := hide hf
  obtain ⟨aI, kI, eI, lI, sI'⟩ := hWx.logAt i (by omega)
  have gI' := hI.good.logs.2 i (by omega)
  have oI := hWx.l i (by omega)
  rw [eI] at oI
  have capI := own_capE oI
  have cnI : aI = none → kI = 0 := fun e => by
    subst e
    rcases oI.2 with ⟨hv, h0⟩ | ⟨g, cap, cur, hv, _⟩
    · obtain ⟨_, _, e3⟩ := Value.slice.inj hv
      exact e3
    · cases hv
  obtain ⟨p, hp⟩ : ∃ p, p = (r.G.getD i []).length := ⟨_, rfl⟩
  rw [← hp] at lI capI
  have gI1 := gI'.1
  rw [← hp] at gI1
  obtain ⟨aJ, kJ, eJ, lJ, sJ'⟩ := hWx.logAt j (by omega)
  have gJ' := hI.good.logs.2 j (by omega)
  have oJ := hWx.l j (by omega)
  rw [eJ] at oJ
  have capJ := own_capE oJ
  have cnJ : aJ = none → kJ = 0 := fun e => by
    subst e
    rcases oJ.2 with ⟨hv, h0⟩ | ⟨g, cap, cur, hv, _⟩
    · obtain ⟨_, _, e3⟩ := Value.slice.inj hv
      exact e3
    · cases hv
  obtain ⟨q, hq⟩ : ∃ p, p = (r.G.getD j []).length := ⟨_, rfl⟩
  rw [← hq] at lJ capJ
  have gJ1 := gJ'.1
  rw [← hq] at gJ1

  have CW := hide (fun wx (hbw : Below w1.heap.size w1 wx) => (fetchOne_any aI aJ (r.G.getD i []) (r.G.getD j []) p kI q kJ wx hp.symm (sI'.below hbw) (by omega) hq.symm (sJ'.below hbw) (by omega) capI cnI gI'.mono gJ'.mono F hF f hf).mono (fun e w3 h => show ∃ a5 c5, e = .returned (.slice a5 f c5) ∧ (w3.ownsRow w1.heap.size 93 2 (.slice a5 f c5) f (flatE F) ∧ Below w1.heap.size w1 w3) ∧ (w3.cell? ⟨b, 0, none⟩ = some (.slice (some ⟨gb, 0, none⟩) n cg) ∧ w3.cell? ⟨w.heap.size, 1, none⟩ = some (.int .i64 (i : Int)) ∧ w3.cell? ⟨b, 2, none⟩ = some (.int .i64 (j : Int)) ∧ w3.cell? ⟨gb, j, none⟩ = some (.slice aJ q kJ)) ∧ w3.cell? ⟨gb, i, none⟩ = some (.slice aI p kI) ∧ (∀ c, w3.frozen? ⟨gb, c, none⟩ = false) by
    obtain ⟨a5, c5, rfl, ho3, hb3⟩ := h
    have hb4 := hbw.trans (hb3.mono hbw.size)
    exact ⟨a5, c5, rfl, ⟨own_baseZ ho3 hbw.size, hb4⟩, ⟨(hb4.cell (p := ⟨b, 0, none⟩) (blk_lt9 g0)).trans g0, (hb4.cell (p := ⟨w.heap.size, 1, none⟩) (blk_lt9 s1)).trans s1, (hb4.cell (p := ⟨b, 2, none⟩) (blk_lt9 g2)).trans g2, (hb4.cell (p := ⟨gb, j, none⟩) (blk_lt9 lJ)).trans lJ⟩, (hb4.cell (p := ⟨gb, i, none⟩) (blk_lt9 lI)).trans lI, fun c => own_frz (hWx.below hb4).g c⟩))
  have hbg : b ≠ gb := fun e => by subst e; exact box_ne hbx hWx.g
  have hsg : w.heap.size ≠ gb := fun e => by have := (Array.getElem?_eq_some_iff.1 (row_blk hW.g).choose_spec).1; omega
  have HN := hide hn
  clear hx hy hbi hj hE hny hnc hn hF hf eI eJ sI' sJ' gI' gJ' oI oJ capI capJ cnI cnJ hp hq gI1 gJ1
  clear ho hR hW hb hWx hbx BX hI hzz hdn hn1 hnode cj ci k0 k1 k2 k3 k4 k5 SX hy6 hyr
  go_enter Try.func83, Try.ntmps83
  go_upto_region 1 with fail
  rw [← HW1.out]
  by_cases hij : i = j
  · subst hij
    go_quiet (first | (go_at_call 101; exact Calls.quiet_of_same (CI.out _)) | (go_at_call 98; exact Calls.quiet_of (CL.out _)))
    go_wp2
    go_ret
    have hoo := HOF.out
    rw [if_neg (fun h => h.1 HLD.out.symm)] at hoo
    exact ⟨by rw [hoo]; rfl, by rw [hoo]; exact HRF.out.same (below_drewN BXF.out _)⟩

  · have hij2 : ((i : Int) == (j : Int)) = false := by simp; omega
    cases x with
    | true =>
      go_quiet (first | (go_at_call 101; exact Calls.quiet_of_same (CI.out _)) | (go_at_call 98; exact Calls.quiet_of (CL.out _)))
      go_wp2
      go_ret
      have hoo := HOF.out
      rw [if_neg (fun h => by have h2 := h.2.1; rw [HX.out] at h2; cases h2)] at hoo
      exact ⟨by rw [hoo]; rfl, by rw [hoo]; exact HRF.out.same (below_drewN BXF.out _)⟩

    | false =>
      cases y with
      | true =>
        go_quiet (first | (go_at_call 101; exact Calls.quiet_of_same (CI.out _)) | (go_at_call 98; exact Calls.quiet_of (CL.out _)))
        go_wp2
        go_ret
        have hoo := HOF.out
        rw [if_neg (fun h => by have h2 := h.2.2; rw [HY.out] at h2; cases h2)] at hoo
        exact ⟨by rw [hoo]; rfl, by rw [hoo]; exact HRF.out.same (below_drewN BXF.out _)⟩

      | false =>
        go_quiet (first | (go_at_call 101; exact Calls.quiet_of_same (CI.out _)) | (go_at_call 98; exact Calls.quiet_of (CL.out _)))
        go_upto_region 3 with fail
        have hoo := HOF.out
        rw [if_pos ⟨fun h => hij (by have := HLD.out; omega), HX.out, HY.out⟩] at hoo
        have HOO := hide hoo
        clear hoo
        refine wp_region_held_drew (S := fun wx => wx.cell? ⟨b, 0, none⟩ = some (.slice (some ⟨gb, 0, none⟩) n cg) ∧ wx.cell? ⟨w.heap.size, 1, none⟩ = some (.int .i64 (i : Int)) ∧ wx.cell? ⟨b, 2, none⟩ = some (.int .i64 (j : Int)) ∧ wx.cell? ⟨gb, j, none⟩ = some (.slice aJ q kJ)) (by kernel_rfl) ⟨g0, s1, g2, lJ⟩ (fun hHeld => ?_)
        refine wpAnyH_take (i := 0) (v := ?v1) rfl (by kernel_rfl) (by kernel_rfl) (by kernel_rfl) (fun _ _ _ h => h) (Or.inl ⟨by rfl, ?y1⟩) (by assumption) ?r1
        case y1 => (intro w hSw; (try dsimp only at hSw); go_simp; try (with_reducible rfl))
        simp only [List.getElem_toArray, List.getElem_cons_zero, Act.put, List.setIfInBounds_toArray, List.set_cons_zero, List.set_cons_succ]
        refine wpAnyH_take (i := 1) (v := ?v2) rfl (by kernel_rfl) (by kernel_rfl) (by kernel_rfl) (fun _ _ _ h => h) (Or.inl ⟨by rfl, ?y2⟩) (by assumption) ?r2
        case y2 => (intro w hSw; (try dsimp only at hSw); go_simp; try (with_reducible rfl))
        simp only [List.getElem_toArray, List.getElem_cons_succ, List.getElem_cons_zero, Act.put, List.setIfInBounds_toArray, List.set_cons_zero, List.set_cons_succ]
        refine wpAnyH_take (i := 2) (v := ?v3) rfl (by kernel_rfl) (by kernel_rfl) (by kernel_rfl) (fun _ _ _ h => h) (Or.inl ⟨by rfl, ?y3⟩) (by assumption) ?r3
        case y3 => (intro w hSw; (try dsimp only at hSw); go_simp; try (with_reducible rfl))
        simp only [List.getElem_toArray, List.getElem_cons_succ, List.getElem_cons_zero, Act.put, List.setIfInBounds_toArray, List.set_cons_zero, List.set_cons_succ]
        refine wpAnyH_take (i := 3) (v := ?v4) rfl (by kernel_rfl) (by kernel_rfl) (by kernel_rfl) (fun _ _ _ h => h) (Or.inl ⟨by rfl, ?y4⟩) (by assumption) ?r4
        case y4 => (intro w hSw; (try dsimp only at hSw); go_simp; try (with_reducible rfl))
        simp only [List.getElem_toArray, List.getElem_cons_succ, List.getElem_cons_zero, Act.put, List.setIfInBounds_toArray, List.set_cons_zero, List.set_cons_succ]
        refine wpAnyH_take (i := 4) (v := ?v5) rfl (by kernel_rfl) (by kernel_rfl) (by kernel_rfl) (fun _ _ _ h => h) (Or.inl ⟨by rfl, ?y5⟩) (by assumption) ?r5
        case y5 => (intro w hSw; (try dsimp only at hSw); go_simp; try (with_reducible rfl))
        simp only [List.getElem_toArray, List.getElem_cons_succ, List.getElem_cons_zero, Act.put, List.setIfInBounds_toArray, List.set_cons_zero, List.set_cons_succ]
        refine wpAnyH_take (i := 5) (v := ?v6) rfl (by kernel_rfl) (by kernel_rfl) (by kernel_rfl) (fun _ _ _ h => h) (Or.inl ⟨by rfl, ?y6⟩) (by assumption) ?r6
        case y6 => (intro w hSw; (try dsimp only at hSw); go_simp; try (with_reducible rfl))
        simp only [List.getElem_toArray, List.getElem_cons_succ, List.getElem_cons_zero, Act.put, List.setIfInBounds_toArray, List.set_cons_zero, List.set_cons_succ]
        refine wpAnyH_take (i := 6) (v := ?v7) rfl (by kernel_rfl) (by kernel_rfl) (by kernel_rfl) (fun _ _ _ h => h) (Or.inl ⟨by rfl, ?y7⟩) (by assumption) ?r7
        case y7 => (intro w hSw; (try dsimp only at hSw); go_simp; try (with_reducible rfl))
        simp only [List.getElem_toArray, List.getElem_cons_succ, List.getElem_cons_zero, Act.put, List.setIfInBounds_toArray, List.set_cons_zero, List.set_cons_succ]
        refine wpAnyH_take (i := 7) (v := ?v8) rfl (by kernel_rfl) (by kernel_rfl) (by kernel_rfl) (fun _ _ _ h => h) (Or.inl ⟨by rfl, ?y8⟩) (by assumption) ?r8
        case y8 => (intro w hSw; (try dsimp only at hSw); go_simp; try (with_reducible rfl))
        simp only [List.getElem_toArray, List.getElem_cons_succ, List.getElem_cons_zero, Act.put, List.setIfInBounds_toArray, List.set_cons_zero, List.set_cons_succ]
        refine wpAnyH_take (i := 8) (v := ?v9) rfl (by kernel_rfl) (by kernel_rfl) (by kernel_rfl) (fun _ _ _ h => h) (Or.inl ⟨by rfl, ?y9⟩) (by assumption) ?r9
        case y9 => (intro w hSw; (try dsimp only at hSw); go_simp; try (with_reducible rfl))
        simp only [List.getElem_toArray, List.getElem_cons_succ, List.getElem_cons_zero, Act.put, List.setIfInBounds_toArray, List.set_cons_zero, List.set_cons_succ]
        refine wpAnyH_take (i := 9) (v := ?v10) rfl (by kernel_rfl) (by kernel_rfl) (by kernel_rfl) (fun _ _ _ h => h) (Or.inl ⟨by rfl, ?y10⟩) (by assumption) ?r10
        case y10 => (intro w hSw; (try dsimp only at hSw); go_simp; try (with_reducible rfl))
        simp only [List.getElem_toArray, List.getElem_cons_succ, List.getElem_cons_zero, Act.put, List.setIfInBounds_toArray, List.set_cons_zero, List.set_cons_succ]
        refine wpAnyH_take (i := 10) (v := ?v11) rfl (by kernel_rfl) (by kernel_rfl) (by kernel_rfl) (fun _ _ _ h => h) (Or.inl ⟨by rfl, ?y11⟩) (by assumption) ?r11
        case y11 => (intro w hSw; (try dsimp only at hSw); go_simp; try (with_reducible rfl))
        simp only [List.getElem_toArray, List.getElem_cons_succ, List.getElem_cons_zero, Act.put, List.setIfInBounds_toArray, List.set_cons_zero, List.set_cons_succ]
        refine wpAnyH_take (i := 11) (v := ?v12) rfl (by kernel_rfl) (by kernel_rfl) (by kernel_rfl) (fun _ _ _ h => h) (Or.inl ⟨by rfl, ?y12⟩) (by assumption) ?r12
        case y12 => (intro w hSw; (try dsimp only at hSw); go_simp; try (with_reducible rfl))
        simp only [List.getElem_toArray, List.getElem_cons_succ, List.getElem_cons_zero, Act.put, List.setIfInBounds_toArray, List.set_cons_zero, List.set_cons_succ]
        refine wpAnyH_take (i := 12) (v := ?v13) rfl (by kernel_rfl) (by kernel_rfl) (by kernel_rfl) (fun _ _ _ h => h) (Or.inl ⟨by rfl, ?y13⟩) (by assumption) ?r13
        case y13 => (intro w hSw; (try dsimp only at hSw); go_simp; try (with_reducible rfl))
        simp only [List.getElem_toArray, List.getElem_cons_succ, List.getElem_cons_zero, Act.put, List.setIfInBounds_toArray, List.set_cons_zero, List.set_cons_succ]
        refine wpAnyH_take (i := 14) (v := ?v14) rfl (by kernel_rfl) (by kernel_rfl) (by kernel_rfl) (fun _ _ _ h => h) (Or.inl ⟨by rfl, ?y14⟩) (by assumption) ?r14
        case y14 => (intro w hSw; (try dsimp only at hSw); go_simp; try (with_reducible rfl))
        simp only [List.getElem_toArray, List.getElem_cons_succ, List.getElem_cons_zero, Act.put, List.setIfInBounds_toArray, List.set_cons_zero, List.set_cons_succ]
        refine wpAnyH_take (i := 15) (v := ?v15) rfl (by kernel_rfl) (by kernel_rfl) (by kernel_rfl) (fun _ _ _ h => h) (Or.inl ⟨by rfl, ?y15⟩) (by assumption) ?r15
        case y15 => (intro w hSw; (try dsimp only at hSw); go_simp; try (with_reducible rfl))
        simp only [List.getElem_toArray, List.getElem_cons_succ, List.getElem_cons_zero, Act.put, List.setIfInBounds_toArray, List.set_cons_zero, List.set_cons_succ]
        refine wpAnyH_take (i := 16) (v := ?v16) rfl (by kernel_rfl) (by kernel_rfl) (by kernel_rfl) (fun _ _ _ h => h) (Or.inl ⟨by rfl, ?y16⟩) (by assumption) ?r16
        case y16 => (intro w hSw; (try dsimp only at hSw); go_simp; try (with_reducible rfl))
        simp only [List.getElem_toArray, List.getElem_cons_succ, List.getElem_cons_zero, Act.put, List.setIfInBounds_toArray, List.set_cons_zero, List.set_cons_succ]
        refine wpAnyH_take (i := 17) (v := ?v17) rfl (by kernel_rfl) (by kernel_rfl) (by kernel_rfl) (fun _ _ _ h => h) (Or.inl ⟨by rfl, ?y17⟩) (by assumption) ?r17
        case y17 => (intro w hSw; (try dsimp only at hSw); go_simp; try (with_reducible rfl))
        simp only [List.getElem_toArray, List.getElem_cons_succ, List.getElem_cons_zero, Act.put, List.setIfInBounds_toArray, List.set_cons_zero, List.set_cons_succ]
        refine wpAnyH_take (i := 18) (v := ?v18) rfl (by kernel_rfl) (by kernel_rfl) (by kernel_rfl) (fun _ _ _ h => h) (Or.inl ⟨by rfl, ?y18⟩) (by assumption) ?r18
        case y18 => (intro w hSw; (try dsimp only at hSw); go_simp; try (with_reducible rfl))
        simp only [List.getElem_toArray, List.getElem_cons_succ, List.getElem_cons_zero, Act.put, List.setIfInBounds_toArray, List.set_cons_zero, List.set_cons_succ]
        refine wpAnyH_take (i := 19) (v := ?v19) rfl (by kernel_rfl) (by kernel_rfl) (by kernel_rfl) (fun _ _ _ h => h) (Or.inl ⟨by rfl, ?y19⟩) (by assumption) ?r19
        case y19 => (intro w hSw; (try dsimp only at hSw); go_simp; try (with_reducible rfl))
        simp only [List.getElem_toArray, List.getElem_cons_succ, List.getElem_cons_zero, Act.put, List.setIfInBounds_toArray, List.set_cons_zero, List.set_cons_succ]
        refine wpAnyH_take (i := 20) (v := ?v20) rfl (by kernel_rfl) (by kernel_rfl) (by kernel_rfl) (fun _ _ _ h => h) (Or.inl ⟨by rfl, ?y20⟩) (by assumption) ?r20
        case y20 => (intro w hSw; (try dsimp only at hSw); go_simp; try (with_reducible rfl))
        simp only [List.getElem_toArray, List.getElem_cons_succ, List.getElem_cons_zero, Act.put, List.setIfInBounds_toArray, List.set_cons_zero, List.set_cons_succ]
        refine wpAnyH_take (i := 21) (v := ?v21) rfl (by kernel_rfl) (by kernel_rfl) (by kernel_rfl) (fun _ _ _ h => h) (Or.inl ⟨by rfl, ?y21⟩) (by assumption) ?r21
        case y21 => (intro w hSw; (try dsimp only at hSw); go_simp; try (with_reducible rfl))
        simp only [List.getElem_toArray, List.getElem_cons_succ, List.getElem_cons_zero, Act.put, List.setIfInBounds_toArray, List.set_cons_zero, List.set_cons_succ]
        refine wpAnyH_take (i := 22) (v := ?v22) rfl (by kernel_rfl) (by kernel_rfl) (by kernel_rfl) (fun _ _ _ h => h) (Or.inl ⟨by rfl, ?y22⟩) (by assumption) ?r22
        case y22 => (intro w hSw; (try dsimp only at hSw); go_simp; try (with_reducible rfl))
        simp only [List.getElem_toArray, List.getElem_cons_succ, List.getElem_cons_zero, Act.put, List.setIfInBounds_toArray, List.set_cons_zero, List.set_cons_succ]
        refine wpAnyH_take (i := 23) (v := ?v23) rfl (by kernel_rfl) (by kernel_rfl) (by kernel_rfl) (fun _ _ _ h => h) (Or.inl ⟨by rfl, ?y23⟩) (by assumption) ?r23
        case y23 => (intro w hSw; (try dsimp only at hSw); go_simp; try (with_reducible rfl))
        simp only [List.getElem_toArray, List.getElem_cons_succ, List.getElem_cons_zero, Act.put, List.setIfInBounds_toArray, List.set_cons_zero, List.set_cons_succ]
        refine wpAnyH_ready (rs := [13]) (by kernel_rfl) (by simp) ?_
        refine AllReadyH.cons rfl (fun K hK => ?_) AllReadyH.nil
        simp only [List.getElem_toArray, List.getElem_cons_succ, List.getElem_cons_zero]
        go_simp
        refine hK.out _ _ ?_ (fun hHeld => ?_)
        · exact hHeld
        clear hK K
        try simp only [Act.put, List.setIfInBounds_toArray, List.set_cons_zero, List.set_cons_succ]
        refine wpAnyH_ready (rs := [24]) (by kernel_rfl) (by simp) ?_
        refine AllReadyH.cons rfl (fun K hK => ?_) AllReadyH.nil
        simp only [List.getElem_toArray, List.getElem_cons_succ, List.getElem_cons_zero]
        go_simp
        go_at_call 100
        refine (CW.out _ (by first | exact (below_drewN (Below.refl _ _) _) | exact (below_drewN (Below.refl _ _) _).drew | exact Below.refl _ _ | exact (Below.refl _ _).drew)).mono ?_
        rintro e w3 ⟨a5, c5, rfl, ho3, hc3, ci3, f4⟩
        dsimp only
        refine hK.out _ _ ?_ (fun hHeld => ?_)
        · exact hc3
        clear hK K
        try simp only [Act.put, List.setIfInBounds_toArray, List.set_cons_zero, List.set_cons_succ]
        refine wpAnyH_take (i := 25) (v := ?v24) rfl (by kernel_rfl) (by kernel_rfl) (by kernel_rfl) (fun _ _ _ h => h) (Or.inl ⟨by rfl, ?y24⟩) (by assumption) ?r24
        case y24 => (intro w hSw; (try dsimp only at hSw); go_simp; try (with_reducible rfl))
        simp only [List.getElem_toArray, List.getElem_cons_succ, List.getElem_cons_zero, Act.put, List.setIfInBounds_toArray, List.set_cons_zero, List.set_cons_succ]
        refine wpAnyH_ready (rs := [26]) (by kernel_rfl) (by simp) ?_
        refine AllReadyH.cons rfl (fun K hK => ?_) AllReadyH.nil
        simp only [List.getElem_toArray, List.getElem_cons_succ, List.getElem_cons_zero]
        go_simp
        refine hK.out _ _ ?_ (fun hHeld => ?_)
        · exact ⟨(cell_set9 hbg).trans hc3.1, (cell_set9 hsg).trans hc3.2.1, (cell_set9 hbg).trans hc3.2.2.1, (cell_setO (fun e => hij e.symm)).trans hc3.2.2.2⟩
        clear hK K
        try simp only [Act.put, List.setIfInBounds_toArray, List.set_cons_zero, List.set_cons_succ]
        refine wpAnyH_done (by kernel_rfl) ?_ _

        clear hHeld
        have hb3 := ho3.2
        go_wp2
        go_ret
        refine ⟨by rw [HOO.out]; rfl, ?_⟩
        rw [HOO.out]
        have e1 : ftc (gg r.G (i : Int)) r.lead = F := by rw [HFF.out]; show ftc _ (r.G.getD r.ld.toNat []) = _; rw [HLD.out]; rfl
        show Done S w b { r with G := r.G.set i (ftc (gg r.G (i : Int)) r.lead) } _
        rw [e1]
        exact done_log HWF.out HBF.out hSb hS BXF.out gb cg rfl i (by have := HN.out; omega) _ F (by rw [← HFL.out]; exact own_baseZ ho3.1 (Nat.zero_le _)) ⟨hb3.os, hb3.tape, hb3.output, hb3.size, fun k hk _ => hb3.block k hk⟩ (fun q hq => .inr (own_ge ho3.1 q hq))
end Go.Proofs.Ythmekhhfihjclbd.L9

namespace Go.Proofs.Ythmekhhfihjclbd.L4
open Go.Shelf Go.RowKit L1
set_option linter.unusedVariables false

def bsRen : Ren := ⟨fun | 49 => 105 | 59 => 111 | 60 => 112 | 68 => 115 | n => n,
  fun | 0 => 0 | 3 => 3 | 4 => 4 | 22 => 70 | 23 => 3 | 36 => 71 | 44 => 64 | 45 => 114 | 51 => 118 | 52 => 97 | 53 => 37 | 67 => 127 | 89 => 122 | 90 => 123 | 91 => 124 | 92 => 125 | 93 => 126 | 94 => 128 | 95 => 129 | 96 => 130 | 97 => 131 | 98 => 132 | 99 => 133 | 100 => 134 | 101 => 135 | 102 => 136 | n => n, fun | n => n⟩
theorem bsLays : SlLaysN.n49 Try.prog bsRen := {
  mixed := by kernel_rfl
  f49 := ⟨Try.f105.name, by kernel_rfl, Try.func105.trans (congrArg some (by kernel_rfl))⟩
  f59 := ⟨Try.f111.name, by kernel_rfl, Try.func111.trans (congrArg some (by kernel_rfl))⟩
  f60 := ⟨Try.f112.name, by kernel_rfl, Try.func112.trans (congrArg some (by kernel_rfl))⟩
  f68 := ⟨Try.f115.name, by kernel_rfl, Try.func115.trans (congrArg some (by kernel_rfl))⟩
  t0 := Try.underlying0
  a0 := Try.isAgg0
  z0 := Try.sizeOf0
  v0 := Try.zeroValue0
  t3 := Try.underlying3
  a3 := Try.isAgg3
  z3 := Try.sizeOf3
  v3 := Try.zeroValue3
  t4 := Try.underlying4
  a4 := Try.isAgg4
  z4 := Try.sizeOf4
  v4 := Try.zeroValue4
  t22 := Try.underlying70
  a22 := Try.isAgg70
  z22 := Try.sizeOf70
  v22 := Try.zeroValue70
  t23 := Try.underlying3
  a23 := Try.isAgg3
  z23 := Try.sizeOf3
  v23 := Try.zeroValue3
  t51 := Try.underlying118
  a51 := Try.isAgg118
  z51 := Try.sizeOf118
  v51 := Try.zeroValue118 }

theorem below_drewN (B : Nat) (w : World) : ∀ q, Below B w (w.drewN q)
  | 0 => Below.refl _ _
  | q + 1 => (below_drewN B w q).trans (Below.refl _ _).drew
set_option maxRecDepth 100000 in
set_option maxHeartbeats 1000000 in
theorem search_nil (c : Nat) (a : Option Addr) (x : Int) (w : World) :
    Calls Try.prog 105 #[.slice a 0 c, .int .i64 x] w fun e w' => ∃ ok, e = .returned (.tuple #[.int .i64 0, .bool ok]) ∧ Below w.heap.size w w' := by
  go_enter Try.func105, Try.ntmps105
  go_wp2
  go_loopw [7, 8] (fun s7 s8 wr => s7 = .int .i64 0 ∧ s8 = .int .i64 0 ∧ wr = w) (fun _ _ _ => 0)
  case atStart => exact ⟨rfl, rfl, rfl⟩
  case round =>
    obtain ⟨rfl, rfl, rfl⟩ := hrel
    go_wp2
    go_ret2
    exact ⟨_, rfl, Below.refl _ _⟩
/-- Of a rising list: how many are less. -/
theorem search_any (a : Option Addr) (xs : List Int) (n c : Nat) (x : Int) (w : World) (hn : xs.length = n) (hn2 : n ≤ 1048576) (hs : Sl w a xs) (hr : Rise xs) :
    Calls Try.prog 105 #[.slice a n c, .int .i64 x] w fun e w' => ∃ ok, e = .returned (.tuple #[.int .i64 (lp x xs : Nat), .bool ok]) ∧ Below w.heap.size w w' := by
  by_cases h0 : n = 0
  · subst h0
    obtain rfl : xs = [] := List.eq_nil_of_length_eq_zero hn
    exact search_nil c a x w
  · obtain ⟨b, off, rfl, _⟩ := hs 0 (by omega)
    have key := AnyG.slices_BinarySearch_int bsLays b off n c xs x w (by omega) (by omega) (fun j hj => hs.at j hj) (by rw [List.take_of_length_le (by omega)]; exact hr.imp fun h => by omega)
    refine Calls.mono key ?_
    rintro e w' ⟨rfl, q, rfl⟩
    have hcount : (xs.take n).countP (fun y => decide (y < x)) = lp x xs := by
      rw [List.take_of_length_le (by omega)]
      exact count_lp x hr
    refine ⟨_, by rw [hcount], ?_⟩
    exact below_drewN _ _ q
end Go.Proofs.Ythmekhhfihjclbd.L4

namespace Go.Proofs.Ythmekhhfihjclbd.L4
open Go.RowKit L1
set_option linter.unusedVariables false

set_option maxRecDepth 100000 in
set_option maxHeartbeats 1000000 in
theorem cut_none (a : Option Addr) (n cap f : Nat) (w : World) (hf : f ≤ n) (hc : n ≤ cap) (hc2 : cap ≤ maxLen) (h0 : a = none → cap = 0) :
    Calls Try.prog 106 #[.slice a n cap, .int .i64 f, .int .i64 f] w fun e w' => e = .returned (.slice a 0 0) ∧ w = w' := by
  unfold maxLen at hc2
  have hfI : (f : Int) ≤ (cap : Int) := by omega
  cases a with
  | none =>
    obtain rfl : cap = 0 := h0 rfl
    obtain rfl : n = 0 := by omega
    obtain rfl : f = 0 := by omega
    go_enter Try.func106, Try.ntmps106
    go_wp2
    go_ret
    exact ⟨rfl, rfl⟩
  | some x =>
    go_enter Try.func106, Try.ntmps106
    go_wp2
    go_ret
    exact ⟨by simp, rfl⟩
set_option maxRecDepth 100000 in
set_option maxHeartbeats 1000000 in
theorem cut_some (b off n cap f t : Nat) (w : World) (hf : f < t) (ht : t ≤ n) (hc : n ≤ cap) (hc2 : cap ≤ maxLen) :
    Calls Try.prog 106 #[.slice (some ⟨b, off, none⟩) n cap, .int .i64 f, .int .i64 t] w fun e w' => e = .returned (.slice (some ⟨b, off + f, none⟩) (t - f) (t - f)) ∧ w = w' := by
  unfold maxLen at hc2
  have h1 : (f : Int) ≤ (t : Int) := by omega
  have h2 : (t : Int) ≤ (cap : Int) := by omega
  have h3 : ¬ t - f = 0 := by omega
  have h4 : (f : Int) < (t : Int) := by omega
  go_enter Try.func106, Try.ntmps106
  go_wp2
  go_ret
  exact ⟨by simp, rfl⟩
/-- A piece of a rising set. -/
theorem cut_any (a : Option Addr) (l : List Int) (n cap f t : Nat) (w : World) (hn : l.length = n) (hs : Sl w a l) (hf : f ≤ t) (ht : t ≤ n) (hc : n ≤ cap) (hc2 : cap ≤ maxLen) (h0 : a = none → cap = 0) :
    Calls Try.prog 106 #[.slice a n cap, .int .i64 f, .int .i64 t] w fun e w' => (∃ a', e = .returned (.slice a' (t - f) (t - f)) ∧ Hid (Sl w a' ((l.drop f).take (t - f)))) ∧ w = w' := by
  by_cases hft : f = t
  · subst hft
    refine (cut_none a n cap f w ht hc hc2 h0).mono ?_
    rintro e w' ⟨rfl, rfl⟩
    exact ⟨⟨a, by simp, fun i hi => by simp at hi⟩, rfl⟩
  · obtain ⟨b, off, rfl, _⟩ := hs f (by omega)
    refine (cut_some b off n cap f t w (by omega) ht hc hc2).mono ?_
    rintro e w' ⟨rfl, rfl⟩
    refine ⟨⟨_, rfl, fun i hi => ?_⟩, rfl⟩
    have hi' : i < t - f ∧ f + i < l.length := by simp at hi; omega
    refine ⟨b, off + f, rfl, ?_⟩
    have := hs.at (f + i) hi'.2
    rw [Nat.add_assoc, this, getD_eq hi'.2, getD_eq hi]
    simp

set_option maxRecDepth 100000 in
set_option maxHeartbeats 1000000 in
theorem hasAt_any (a : Option Addr) (l : List Int) (n cap k : Nat) (x : Int) (w : World) (hn : l.length = n) (hs : Sl w a l) (bb : Bool) (hbb : bb = true ↔ k < l.length ∧ l.getD k 0 = x) :
    Calls Try.prog 91 #[.slice a n cap, .int .i64 k, .int .i64 x] w fun e w' => e = .returned (.bool bb) ∧ w = w' := by
  by_cases hlt : k < n
  · obtain ⟨b, off, rfl, hc⟩ := hs k (by omega)
    obtain ⟨y, hy⟩ : ∃ y, y = l.getD k 0 := ⟨_, rfl⟩
    rw [← hy] at hc hbb
    have hbb' : bb = (y == x) := by rw [Bool.eq_iff_iff, hbb]; simp; omega
    have HB := hide hbb'
    have hltI : (k : Int) < (n : Int) := by omega
    clear hbb hbb' hy hs hn
    go_enter Try.func91, Try.ntmps91
    go_wp2
    go_ret
    exact ⟨by rw [HB.out]; rfl, rfl⟩
  · have hb : bb = false := bool_noT hbb (by omega)
    have HB := hide hb
    have hltI : ¬ (k : Int) < (n : Int) := by omega
    clear hbb hb hs hn
    go_enter Try.func91, Try.ntmps91
    go_wp2
    go_ret
    exact ⟨by rw [HB.out]; rfl, rfl⟩

/-- What the search in the last stretch tells. -/
theorem leap_end {l : List Int} {f f' e : Nat} {x : Int} (hr : Rise l) (h1 : f ≤ f') (h2 : f' ≤ e) (h3 : e ≤ l.length) (h4 : ∀ j, f ≤ j → j < f' → l.getD j 0 < x) (h5 : e < l.length → ¬ l.getD e 0 < x) : leap l f x = f' + lp x ((l.drop f').take (e - f')) := by
  have hl : ((l.drop f').take (e - f')).length = e - f' := by simp; omega
  have hle := lp_le x ((l.drop f').take (e - f'))
  rw [hl] at hle
  have hget : ∀ j, j < e - f' → ((l.drop f').take (e - f')).getD j 0 = l.getD (f' + j) 0 := fun j hj => by
    rw [getD_eq (by omega), getD_eq (by omega)]
    simp
  refine leap_at (by omega) (by omega) (fun j q1 q2 => ?_) (fun q => ?_)
  · by_cases hj : j < f'
    · exact h4 j q1 hj
    · have := lp_lt x ((l.drop f').take (e - f')) (j - f') (by omega)
      rw [hget _ (by omega), show f' + (j - f') = j by omega] at this
      exact this
  · by_cases he : lp x ((l.drop f').take (e - f')) < e - f'
    · have := lp_stop x ((l.drop f').take (e - f')) (by omega)
      rw [hget _ he] at this
      exact this
    · have e1 : f' + lp x ((l.drop f').take (e - f')) = e := by omega
      rw [e1] at q ⊢
      exact h5 q

set_option maxRecDepth 100000 in
set_option maxHeartbeats 2000000 in
theorem leap_any (a : Option Addr) (l : List Int) (n cap f : Nat) (x : Int) (w : World) (hn : l.length = n) (hs : Sl w a l) (hn2 : n ≤ 1048576) (hf : f ≤ n) (hc : n ≤ cap) (hc2 : cap ≤ maxLen) (h0 : a = none → cap = 0) (hr : Rise l) (r : Nat) (hres : leap l f x = r) :
    Calls Try.prog 90 #[.slice a n cap, .int .i64 f, .int .i64 x] w fun e w' => e = .returned (.int .i64 r) ∧ Below w.heap.size w w' := by
  have HC := hide (fun f t w hs h1 h2 => cut_any a l n cap f t w hn hs h1 h2 hc hc2 h0)
  have HR := hide hr
  have HS := hide hs
  have HN := hide hn
  have HRES := hide hres
  clear hc hc2 h0 hr hs hn hres
  go_enter Try.func90, Try.ntmps90
  go_wp2
  go_loop [1, 7] (fun s1 s7 => ∃ g : Nat, f ≤ g ∧ g ≤ n ∧ s1 = .int .i64 g ∧ s7 = .int .i64 ((g : Int) - (f : Int) + 1) ∧ Hid (∀ j, f ≤ j → j < g → l.getD j 0 < x)) (fun s1 _ => n - (intOf s1).toNat)
  case atStart => exact ⟨f, Nat.le_refl _, hf, rfl, by simp, fun j h1 h2 => absurd h2 (by omega)⟩
  case round =>
    obtain ⟨g, hfg, hgn, rfl, rfl, HJ⟩ := hrel
    obtain ⟨d, hd⟩ : ∃ d : Nat, d = g - f + 1 := ⟨_, rfl⟩
    have hdI : (g : Int) - (f : Int) + 1 = (d : Int) := by omega
    rw [hdI]
    have HD := hide hd
    have hd1 : 1 ≤ d := by omega
    have hd2 : d ≤ n + 1 := by omega
    clear hd hdI
    by_cases hin : g + d ≤ n
    · obtain ⟨b, off, rfl, hc⟩ := HS.out (g + d - 1) (by rw [HN.out]; omega)
      obtain ⟨y, hy⟩ : ∃ y, y = l.getD (g + d - 1) 0 := ⟨_, rfl⟩
      rw [← hy] at hc
      have HY := hide hy.symm
      have hinI : (g : Int) + (d : Int) ≤ (n : Int) := by omega
      have hix : (g : Int) + (d : Int) - 1 = ((g + d - 1 : Nat) : Int) := by omega
      have hix2 : ((g + d - 1 : Nat) : Int) < (n : Int) := by omega
      clear hy
      by_cases hyx : y < x
      · go_wp2
        go_round
        case rel =>
          refine ⟨g + d, by omega, hin, by go_num, ?_, ?_⟩
          · have := HD.out
            have e : ((g + d : Nat) : Int) - (f : Int) + 1 = (d : Int) * 2 := by omega
            rw [e]
          · intro j q1 q2
            have := rise_le HR.out (show j ≤ g + d - 1 by omega) (by rw [HN.out]; omega)
            rw [HY.out] at this
            omega
        case measure => simp [intOf]; omega
      · have hend := leap_end HR.out hfg (show g ≤ g + d - 1 by omega) (by rw [HN.out]; omega) HJ.out (fun _ => by rw [HY.out]; exact hyx)
        rw [HRES.out] at hend
        have e1 : g + d - 1 - g = d - 1 := by omega
        rw [e1] at hend
        have HE := hide hend
        have hmin : min ((g + d - 1 : Nat) : Int) (n : Int) = ((g + d - 1 : Nat) : Int) := by omega
        clear hend e1
        go_wp2_with fail
        refine (HC.out g (g + d - 1) _ HS.out (by omega) (by omega)).mono ?_
        rintro e w1 ⟨⟨a', rfl, hsl⟩, rfl⟩
        have e2 : g + d - 1 - g = d - 1 := by omega
        rw [e2] at hsl ⊢
        have HSL := hide hsl
        clear hsl e2
        go_wp2_with fail
        refine (search_any a' ((l.drop g).take (d - 1)) (d - 1) (d - 1) x _ (by have := HN.out; simp; omega) (by omega) HSL.out ((HR.out.sublist (List.drop_sublist _ _)).sublist (List.take_sublist _ _))).mono ?_
        rintro e w2 ⟨ok, rfl, hb⟩
        have B := hide hb
        have hlp := lp_le x ((l.drop g).take (d - 1))
        have hll : ((l.drop g).take (d - 1)).length = d - 1 := by have := HN.out; simp; omega
        rw [hll] at hlp
        obtain ⟨m, hm⟩ : ∃ m, m = lp x ((l.drop g).take (d - 1)) := ⟨_, rfl⟩
        rw [← hm] at hlp ⊢
        have E := HE.out
        rw [← hm] at E
        have EE := hide E
        clear hb hll hm E HE
        go_wp2
        go_ret
        exact ⟨by rw [EE.out]; simp, B.out⟩
    · have hinI : ¬ (g : Int) + (d : Int) ≤ (n : Int) := by omega
      have hend := leap_end HR.out hfg hgn (by rw [HN.out]; omega) HJ.out (fun h => by rw [HN.out] at h; omega)
      rw [HRES.out] at hend
      have HE := hide hend
      have hix : (g : Int) + (d : Int) - 1 = ((g + d - 1 : Nat) : Int) := by omega
      clear hend
      have hmin : min ((g + d - 1 : Nat) : Int) (n : Int) = (n : Int) := by omega
      go_wp2_with fail
      refine (HC.out g n _ HS.out hgn (Nat.le_refl _)).mono ?_
      rintro e w1 ⟨⟨a', rfl, hsl⟩, rfl⟩
      have HSL := hide hsl
      clear hsl
      go_wp2_with fail
      refine (search_any a' ((l.drop g).take (n - g)) (n - g) (n - g) x _ (by have := HN.out; simp; omega) (by omega) HSL.out ((HR.out.sublist (List.drop_sublist _ _)).sublist (List.take_sublist _ _))).mono ?_
      rintro e w2 ⟨ok, rfl, hb⟩
      have B := hide hb
      have hlp := lp_le x ((l.drop g).take (n - g))
      have hll : ((l.drop g).take (n - g)).length = n - g := by have := HN.out; simp; omega
      rw [hll] at hlp
      obtain ⟨m, hm⟩ : ∃ m, m = lp x ((l.drop g).take (n - g)) := ⟨_, rfl⟩
      rw [← hm] at hlp ⊢
      have E := HE.out
      rw [← hm] at E
      have EE := hide E
      clear hb hll hm E HE
      go_wp2
      go_ret
      exact ⟨by rw [EE.out]; simp, B.out⟩
end Go.Proofs.Ythmekhhfihjclbd.L4

namespace Go.Proofs.Ythmekhhfihjclbd.L4
open Go.RowKit L1
set_option linter.unusedVariables false

set_option maxRecDepth 100000 in
set_option maxHeartbeats 4000000 in
theorem chosen_true (a : Option Addr) (xs : List Int) (n cap : Nat) (b : Option Addr) (ys : List Int) (n2 cap2 : Nat) (w : World) (hn : xs.length = n) (hs : Sl w a xs) (hn2 : n ≤ 1048576) (hm : ys.length = n2) (ht : SlC w b n2 cap2 ys) (hm2 : n2 ≤ 1048576) (hrx : Rise xs) (hry : Rise ys) :
    Calls Try.prog 72 #[.slice a n cap, .slice b n2 cap2, .bool true] w fun e w' => RetN w (those ys true xs) e w' := by
  obtain ⟨i1, hi1, hy0, hy1, hy2⟩ := info_parts info_int
  have HS := hide hs
  have HN := hide hn
  have HT := hide ht
  have HM2 := hide hm
  have HL := hide (fun f x w r ht hf hr => leap_any b ys n2 cap2 f x w hm (SlC.sl ht) hm2 hf (SlC.le ht) (SlC.max ht) (SlC.nil ht) hry r hr)
  have HH := hide (fun k x w bb (ht : SlC w b n2 cap2 ys) hb => hasAt_any b ys n2 cap2 k x w hm (SlC.sl ht) bb hb)
  have HRX := hide hrx
  have HRY := hide hry
  clear hs hn ht hm hrx hry
  go_enter Try.func72, Try.ntmps72
  go_wp2
  go_loopw [7, 8, 13] (fun ot s8 i wr => ∃ k : Nat, k ≤ n ∧ i = .int .i64 k ∧ wr.ownsRow w.heap.size 3 1 ot (those ys true (xs.take k)).length ((those ys true (xs.take k)).map (Value.int .i64)) ∧ Below w.heap.size w wr ∧ ∃ f : Nat, f ≤ n2 ∧ s8 = .int .i64 f ∧ Hid (∀ j, j < f → ∀ i, k ≤ i → i < n → ys.getD j 0 < xs.getD i 0)) (fun _ _ i _ => n - (intOf i).toNat)
  case atStart => exact ⟨0, Nat.zero_le _, rfl, World.ownsRow_nil _ _ _ _, Below.refl _ _, 0, Nat.zero_le _, rfl, fun j hj => absurd hj (Nat.not_lt_zero _)⟩
  case round =>
    obtain ⟨k, hk, rfl, hown, hbel, f, hf, rfl, HJ⟩ := hrel
    obtain ⟨oa, ocap, rfl, _, _⟩ := own_form hown
    by_cases hlt : k < n
    · obtain ⟨b1, off, rfl, hc0⟩ := HS.out k (by rw [HN.out]; exact hlt)
      have hc := (hbel.cell (p := ⟨b1, off + k, none⟩) (blk_lt hc0)).trans hc0
      have hltI : (k : Int) < (n : Int) := by omega
      have htk := those_snoc xs ys true k (by rw [HN.out]; exact hlt)
      obtain ⟨x, hx⟩ : ∃ x, x = xs.getD k 0 := ⟨_, rfl⟩
      rw [← hx] at hc htk
      have hml : (those ys true (xs.take k)).length ≤ 1048576 := by
        have h1 := those_len (xs.take k) ys true
        have h2 : (xs.take k).length ≤ k := by simp; omega
        omega
      obtain ⟨m, hmm⟩ : ∃ m, m = (those ys true (xs.take k)).length := ⟨_, rfl⟩
      rw [← hmm] at hown hml ⊢
      have HM := hide hmm
      have HX := hide hx.symm
      have HT1 := hide (HT.out.below hbel)
      have HROW0 := hide hown
      have B0 := hide hbel
      have hsz0 := hbel.size
      clear hc0 hx hmm hown hbel
      obtain ⟨u, hu⟩ : ∃ u, leap ys f x = u := ⟨_, rfl⟩
      have hmu := leap_mem (x := x) HRY.out (by rw [HM2.out]; exact hf) (fun j hj => by have := HJ.out j hj k (Nat.le_refl _) hlt; rw [HX.out] at this; exact this)
      rw [hu] at hmu
      have hun : u ≤ n2 := by have := leap_le ys f x (by rw [HM2.out]; exact hf); rw [hu, HM2.out] at this; exact this
      have HU : Hid (∀ j, j < u → ∀ i, k + 1 ≤ i → i < n → ys.getD j 0 < xs.getD i 0) := by
        intro j hj i h1 h2
        have q := rise_get HRX.out (show k < i by omega) (by rw [HN.out]; exact h2)
        rw [HX.out] at q
        by_cases hjf : j < f
        · exact HJ.out j hjf i (by omega) h2
        · have := leap_lt ys f x j (by omega) (by rw [hu]; exact hj)
          omega
      have HUL := hide hu
      clear hu
      by_cases hmem : x ∈ ys
      · have htk2 : those ys true (xs.take (k + 1)) = those ys true (xs.take k) ++ [x] := by rw [htk, if_pos (by simp [hmem])]
        have HTK := hide htk2
        have hbb : true = true ↔ u < ys.length ∧ ys.getD u 0 = x := by rw [← hmu]; simp [hmem]
        have HYY := hide hbb
        clear hmu hbb
        clear htk htk2 hmem
        go_wp2_with fail
        refine (HL.out f x _ u HT1.out hf HUL.out).mono ?_
        rintro e w1 ⟨rfl, hb1⟩
        have HT2 := hide (HT1.out.below hb1)
        have HROW := hide (own_belowT HROW0.out hb1)
        have B2 := hide (B0.out.trans (hb1.mono B0.out.size))
        have hsz := Nat.le_trans hsz0 hb1.size
        clear hb1
        go_wp2_with fail
        refine (HH.out u x _ true HT2.out (by simpa using HYY.out)).mono ?_
        rintro e w2 ⟨rfl, rfl⟩
        go_wp2_with (first
          | (at_builtin; refine wpList_append_own _ rfl _ _ 70 rfl w.heap.size 3 i1 (.int .i64 0) 1 8 Try.underlying70 hi1 hy0 hy1 hy2 rfl (by decide) _ _ _ rfl (HROW.out.alloc _) ⟨w1.heap.size, 0, none⟩ 1 1 [.int .i64 x] rfl rfl (cell_one_new _ _ _) (by intro u hu; simp at hu; subst hu; rfl) (by unfold maxLen; omega) (by omega) (by simp; omega) ?_)
          | go_in)
        intro v6 w6 hown6 hgrow6 _
        have hb6 := B2.out.trans (((Below.refl _ _).alloc hsz _).grown hgrow6 (by simp; omega) (fun g hg => (HROW.out.lt g hg).1))
        have hown8 : w6.ownsRow w.heap.size 3 1 v6 (those ys true (xs.take (k + 1))).length ((those ys true (xs.take (k + 1))).map (Value.int .i64)) := by
          rw [HTK.out, List.length_append, List.map_append, ← HM.out]; simpa using hown6
        have hown7 := hide hown8
        clear hown6 hgrow6 hown8
        go_wp2
        go_roundw
        case rel => exact ⟨k + 1, by omega, by go_num, hown7.out, hb6, u, hun, rfl, HU.out⟩
        case measure => simp [intOf]; omega
      · have htk2 : those ys true (xs.take (k + 1)) = those ys true (xs.take k) := by rw [htk, if_neg (by simp [hmem])]
        have HTK := hide htk2
        have hbb : false = true ↔ u < ys.length ∧ ys.getD u 0 = x := by rw [← hmu]; simp [hmem]
        have HYY := hide hbb
        clear hmu hbb
        clear htk htk2 hmem
        go_wp2_with fail
        refine (HL.out f x _ u HT1.out hf HUL.out).mono ?_
        rintro e w1 ⟨rfl, hb1⟩
        have HT2 := hide (HT1.out.below hb1)
        have HROW := hide (own_belowT HROW0.out hb1)
        have B2 := hide (B0.out.trans (hb1.mono B0.out.size))
        have hsz := Nat.le_trans hsz0 hb1.size
        clear hb1
        go_wp2_with fail
        refine (HH.out u x _ false HT2.out (by simpa using HYY.out)).mono ?_
        rintro e w2 ⟨rfl, rfl⟩
        have hown7 : Hid (w1.ownsRow w.heap.size 3 1 (.slice oa m ocap) (those ys true (xs.take (k + 1))).length ((those ys true (xs.take (k + 1))).map (Value.int .i64))) := by
          rw [HTK.out, ← HM.out]; exact HROW.out
        have hb6 := B2.out
        go_wp2
        go_roundw
        case rel => exact ⟨k + 1, by omega, by go_num, hown7.out, hb6, u, hun, rfl, HU.out⟩
        case measure => simp [intOf]; omega
    · obtain rfl : k = n := by omega
      have e1 : xs.take k = xs := List.take_of_length_le (by rw [HN.out]; exact Nat.le_refl _)
      rw [e1] at hown ⊢
      have HO := hide hown
      have hltI : ¬ (k : Int) < (k : Int) := by omega
      clear e1 hown
      go_wp2
      go_ret
      exact ⟨_, rfl, HO.out, hbel⟩

end Go.Proofs.Ythmekhhfihjclbd.L4

namespace Go.Proofs.Ythmekhhfihjclbd.L4
open Go.RowKit L1
set_option linter.unusedVariables false

set_option maxRecDepth 100000 in
set_option maxHeartbeats 1000000 in
theorem l1Has_any (a : Option Addr) (xs : List Int) (n cap : Nat) (o : Int) (w : World) (hn : xs.length = n) (hs : Sl w a xs) (hn2 : n ≤ 1048576) (bb : Bool) (hbb : bb = true ↔ o ∈ xs) :
    Calls Try.prog 40 #[.slice a n cap, .int .i64 o] w fun e w' => e = .returned (.bool bb) ∧ Below w.heap.size w w' := by
  have HS := hide hs
  have HN := hide hn
  have HBB := hide hbb
  clear hs hn hbb
  go_enter Try.func40, Try.ntmps40
  go_wp2
  go_loop [9] (fun i => ∃ k : Nat, k ≤ n ∧ i = .int .i64 k ∧ Hid (∀ j, j < k → xs.getD j 0 ≠ o)) (fun i => n - (intOf i).toNat)
  case atStart => exact ⟨0, Nat.zero_le _, rfl, fun j hj => absurd hj (Nat.not_lt_zero _)⟩
  case round =>
    obtain ⟨k, hk, rfl, HJ⟩ := hrel
    by_cases hlt : k < n
    · obtain ⟨b, off, rfl, hc⟩ := HS.out k (by rw [HN.out]; exact hlt)
      have hltI : (k : Int) < (n : Int) := by omega
      obtain ⟨x, hx⟩ : ∃ x, x = xs.getD k 0 := ⟨_, rfl⟩
      rw [← hx] at hc
      have HX := hide hx.symm
      clear hx
      by_cases hle : x = o
      · subst hle
        have hmem : x ∈ xs := by
          have h1 := HX.out
          have h2 : k < xs.length := by rw [HN.out]; exact hlt
          simp only [List.getD, List.getElem?_eq_getElem h2, Option.getD_some] at h1
          rw [← h1]
          exact List.getElem_mem h2
        have HM := hide (HBB.out.2 hmem)
        clear hmem
        go_wp2
        go_ret
        exact ⟨by rw [HM.out]; rfl, Below.refl _ _⟩
      · have hle' : (x == o) = false := by simpa using hle
        have HLE := hide hle
        clear hle
        go_wp2
        go_round
        case rel =>
          refine ⟨k + 1, by omega, by go_num, ?_⟩
          intro j hj
          by_cases e : j = k
          · subst e; rw [HX.out]; exact HLE.out
          · exact HJ.out j (by omega)
        case measure => simp [intOf]; omega
    · have hltI : ¬ (k : Int) < (n : Int) := by omega
      have hmem : o ∉ xs := fun h => by
        obtain ⟨j, hj, e⟩ := List.getElem_of_mem h
        refine HJ.out j (by rw [HN.out] at hj; omega) ?_
        simp only [List.getD, List.getElem?_eq_getElem hj, Option.getD_some]
        exact e
      have HM := hide (bool_noT HBB.out hmem)
      clear hmem
      go_wp2
      go_ret
      exact ⟨by rw [HM.out]; rfl, Below.refl _ _⟩

end Go.Proofs.Ythmekhhfihjclbd.L4

namespace Go.Proofs.Ythmekhhfihjclbd.L4
open Go.RowKit L1
set_option linter.unusedVariables false

set_option maxRecDepth 100000 in
set_option maxHeartbeats 4000000 in
theorem those_true (a : Option Addr) (xs : List Int) (n cap : Nat) (b : Option Addr) (ys : List Int) (n2 cap2 : Nat) (w : World) (hn : xs.length = n) (hs : Sl w a xs) (hn2 : n ≤ 1048576) (hm : ys.length = n2) (ht : Sl w b ys) (hm2 : n2 ≤ 1048576) :
    Calls Try.prog 95 #[.slice a n cap, .slice b n2 cap2, .bool true] w fun e w' => RetN w (those ys true xs) e w' := by
  obtain ⟨i1, hi1, hy0, hy1, hy2⟩ := info_parts info_int
  have HS := hide hs
  have HN := hide hn
  have HT := hide ht
  have HM2 := hide hm
  have HL := hide (fun x w bb ht hb => l1Has_any b ys n2 cap2 x w hm ht hm2 bb hb)
  clear hs hn ht hm
  go_enter Try.func95, Try.ntmps95
  go_wp2
  go_loopw [7, 12] (fun ot i wr => ∃ k : Nat, k ≤ n ∧ i = .int .i64 k ∧ wr.ownsRow w.heap.size 3 1 ot (those ys true (xs.take k)).length ((those ys true (xs.take k)).map (Value.int .i64)) ∧ Below w.heap.size w wr) (fun _ i _ => n - (intOf i).toNat)
  case atStart => exact ⟨0, Nat.zero_le _, rfl, World.ownsRow_nil _ _ _ _, Below.refl _ _⟩
  case round =>
    obtain ⟨k, hk, rfl, hown, hbel⟩ := hrel
    obtain ⟨oa, ocap, rfl, _, _⟩ := own_form hown
    by_cases hlt : k < n
    · obtain ⟨b1, off, rfl, hc0⟩ := HS.out k (by rw [HN.out]; exact hlt)
      have hc := (hbel.cell (p := ⟨b1, off + k, none⟩) (blk_lt hc0)).trans hc0
      have hltI : (k : Int) < (n : Int) := by omega
      have htk := those_snoc xs ys true k (by rw [HN.out]; exact hlt)
      obtain ⟨x, hx⟩ : ∃ x, x = xs.getD k 0 := ⟨_, rfl⟩
      rw [← hx] at hc htk
      have hml : (those ys true (xs.take k)).length ≤ 1048576 := by
        have h1 := those_len (xs.take k) ys true
        have h2 : (xs.take k).length ≤ k := by simp; omega
        omega
      obtain ⟨m, hmm⟩ : ∃ m, m = (those ys true (xs.take k)).length := ⟨_, rfl⟩
      rw [← hmm] at hown hml ⊢
      have HM := hide hmm
      have HX := hide hx.symm
      have HT1 := hide (HT.out.below hbel)
      have HROW0 := hide hown
      have B0 := hide hbel
      have hsz0 := hbel.size
      clear hc0 hx hmm hown hbel
      by_cases hmem : x ∈ ys
      · have htk2 : those ys true (xs.take (k + 1)) = those ys true (xs.take k) ++ [x] := by rw [htk, if_pos (by simp [hmem])]
        have HTK := hide htk2
        have hbb : true = true ↔ x ∈ ys := by simp [hmem]
        have HYY := hide hbb
        clear hbb
        clear htk htk2 hmem
        go_wp2_with fail
        refine (HL.out x _ true HT1.out (by simpa using HYY.out)).mono ?_
        rintro e w1 ⟨rfl, hb1⟩
        have HROW := hide (own_belowT HROW0.out hb1)
        have B2 := hide (B0.out.trans (hb1.mono B0.out.size))
        have hsz := Nat.le_trans hsz0 hb1.size
        clear hb1
        go_wp2_with (first
          | (at_builtin; refine wpList_append_own _ rfl _ _ 22 rfl w.heap.size 3 i1 (.int .i64 0) 1 8 Try.underlying22 hi1 hy0 hy1 hy2 rfl (by decide) _ _ _ rfl (HROW.out.alloc _) ⟨w1.heap.size, 0, none⟩ 1 1 [.int .i64 x] rfl rfl (cell_one_new _ _ _) (by intro u hu; simp at hu; subst hu; rfl) (by unfold maxLen; omega) (by omega) (by simp; omega) ?_)
          | go_in)
        intro v6 w6 hown6 hgrow6 _
        have hb6 := B2.out.trans (((Below.refl _ _).alloc hsz _).grown hgrow6 (by simp; omega) (fun g hg => (HROW.out.lt g hg).1))
        have hown8 : w6.ownsRow w.heap.size 3 1 v6 (those ys true (xs.take (k + 1))).length ((those ys true (xs.take (k + 1))).map (Value.int .i64)) := by
          rw [HTK.out, List.length_append, List.map_append, ← HM.out]; simpa using hown6
        have hown7 := hide hown8
        clear hown6 hgrow6 hown8
        go_wp2
        go_roundw
        case rel => exact ⟨k + 1, by omega, by go_num, hown7.out, hb6⟩
        case measure => simp [intOf]; omega
      · have htk2 : those ys true (xs.take (k + 1)) = those ys true (xs.take k) := by rw [htk, if_neg (by simp [hmem])]
        have HTK := hide htk2
        have hbb : false = true ↔ x ∈ ys := by simp [hmem]
        have HYY := hide hbb
        clear hbb
        clear htk htk2 hmem
        go_wp2_with fail
        refine (HL.out x _ false HT1.out (by simpa using HYY.out)).mono ?_
        rintro e w1 ⟨rfl, hb1⟩
        have HROW := hide (own_belowT HROW0.out hb1)
        have B2 := hide (B0.out.trans (hb1.mono B0.out.size))
        have hsz := Nat.le_trans hsz0 hb1.size
        clear hb1
        have hown7 : Hid (w1.ownsRow w.heap.size 3 1 (.slice oa m ocap) (those ys true (xs.take (k + 1))).length ((those ys true (xs.take (k + 1))).map (Value.int .i64))) := by
          rw [HTK.out, ← HM.out]; exact HROW.out
        have hb6 := B2.out
        go_wp2
        go_roundw
        case rel => exact ⟨k + 1, by omega, by go_num, hown7.out, hb6⟩
        case measure => simp [intOf]; omega
    · obtain rfl : k = n := by omega
      have e1 : xs.take k = xs := List.take_of_length_le (by rw [HN.out]; exact Nat.le_refl _)
      rw [e1] at hown ⊢
      have HO := hide hown
      have hltI : ¬ (k : Int) < (k : Int) := by omega
      clear e1 hown
      go_wp2
      go_ret
      exact ⟨_, rfl, HO.out, hbel⟩

set_option maxRecDepth 100000 in
set_option maxHeartbeats 4000000 in
theorem chosen_false (a : Option Addr) (xs : List Int) (n cap : Nat) (b : Option Addr) (ys : List Int) (n2 cap2 : Nat) (w : World) (hn : xs.length = n) (hs : Sl w a xs) (hn2 : n ≤ 1048576) (hm : ys.length = n2) (ht : SlC w b n2 cap2 ys) (hm2 : n2 ≤ 1048576) (hrx : Rise xs) (hry : Rise ys) :
    Calls Try.prog 72 #[.slice a n cap, .slice b n2 cap2, .bool false] w fun e w' => RetN w (those ys false xs) e w' := by
  obtain ⟨i1, hi1, hy0, hy1, hy2⟩ := info_parts info_int
  have HS := hide hs
  have HN := hide hn
  have HT := hide ht
  have HM2 := hide hm
  have HL := hide (fun f x w r ht hf hr => leap_any b ys n2 cap2 f x w hm (SlC.sl ht) hm2 hf (SlC.le ht) (SlC.max ht) (SlC.nil ht) hry r hr)
  have HH := hide (fun k x w bb (ht : SlC w b n2 cap2 ys) hb => hasAt_any b ys n2 cap2 k x w hm (SlC.sl ht) bb hb)
  have HRX := hide hrx
  have HRY := hide hry
  clear hs hn ht hm hrx hry
  go_enter Try.func72, Try.ntmps72
  go_wp2
  go_loopw [7, 8, 13] (fun ot s8 i wr => ∃ k : Nat, k ≤ n ∧ i = .int .i64 k ∧ wr.ownsRow w.heap.size 3 1 ot (those ys false (xs.take k)).length ((those ys false (xs.take k)).map (Value.int .i64)) ∧ Below w.heap.size w wr ∧ ∃ f : Nat, f ≤ n2 ∧ s8 = .int .i64 f ∧ Hid (∀ j, j < f → ∀ i, k ≤ i → i < n → ys.getD j 0 < xs.getD i 0)) (fun _ _ i _ => n - (intOf i).toNat)
  case atStart => exact ⟨0, Nat.zero_le _, rfl, World.ownsRow_nil _ _ _ _, Below.refl _ _, 0, Nat.zero_le _, rfl, fun j hj => absurd hj (Nat.not_lt_zero _)⟩
  case round =>
    obtain ⟨k, hk, rfl, hown, hbel, f, hf, rfl, HJ⟩ := hrel
    obtain ⟨oa, ocap, rfl, _, _⟩ := own_form hown
    by_cases hlt : k < n
    · obtain ⟨b1, off, rfl, hc0⟩ := HS.out k (by rw [HN.out]; exact hlt)
      have hc := (hbel.cell (p := ⟨b1, off + k, none⟩) (blk_lt hc0)).trans hc0
      have hltI : (k : Int) < (n : Int) := by omega
      have htk := those_snoc xs ys false k (by rw [HN.out]; exact hlt)
      obtain ⟨x, hx⟩ : ∃ x, x = xs.getD k 0 := ⟨_, rfl⟩
      rw [← hx] at hc htk
      have hml : (those ys false (xs.take k)).length ≤ 1048576 := by
        have h1 := those_len (xs.take k) ys false
        have h2 : (xs.take k).length ≤ k := by simp; omega
        omega
      obtain ⟨m, hmm⟩ : ∃ m, m = (those ys false (xs.take k)).length := ⟨_, rfl⟩
      rw [← hmm] at hown hml ⊢
      have HM := hide hmm
      have HX := hide hx.symm
      have HT1 := hide (HT.out.below hbel)
      have HROW0 := hide hown
      have B0 := hide hbel
      have hsz0 := hbel.size
      clear hc0 hx hmm hown hbel
      obtain ⟨u, hu⟩ : ∃ u, leap ys f x = u := ⟨_, rfl⟩
      have hmu := leap_mem (x := x) HRY.out (by rw [HM2.out]; exact hf) (fun j hj => by have := HJ.out j hj k (Nat.le_refl _) hlt; rw [HX.out] at this; exact this)
      rw [hu] at hmu
      have hun : u ≤ n2 := by have := leap_le ys f x (by rw [HM2.out]; exact hf); rw [hu, HM2.out] at this; exact this
      have HU : Hid (∀ j, j < u → ∀ i, k + 1 ≤ i → i < n → ys.getD j 0 < xs.getD i 0) := by
        intro j hj i h1 h2
        have q := rise_get HRX.out (show k < i by omega) (by rw [HN.out]; exact h2)
        rw [HX.out] at q
        by_cases hjf : j < f
        · exact HJ.out j hjf i (by omega) h2
        · have := leap_lt ys f x j (by omega) (by rw [hu]; exact hj)
          omega
      have HUL := hide hu
      clear hu
      by_cases hmem : x ∈ ys
      · have htk2 : those ys false (xs.take (k + 1)) = those ys false (xs.take k) := by rw [htk, if_neg (by simp [hmem])]
        have HTK := hide htk2
        have hbb : true = true ↔ u < ys.length ∧ ys.getD u 0 = x := by rw [← hmu]; simp [hmem]
        have HYY := hide hbb
        clear hmu hbb
        clear htk htk2 hmem
        go_wp2_with fail
        refine (HL.out f x _ u HT1.out hf HUL.out).mono ?_
        rintro e w1 ⟨rfl, hb1⟩
        have HT2 := hide (HT1.out.below hb1)
        have HROW := hide (own_belowT HROW0.out hb1)
        have B2 := hide (B0.out.trans (hb1.mono B0.out.size))
        have hsz := Nat.le_trans hsz0 hb1.size
        clear hb1
        go_wp2_with fail
        refine (HH.out u x _ true HT2.out (by simpa using HYY.out)).mono ?_
        rintro e w2 ⟨rfl, rfl⟩
        have hown7 : Hid (w1.ownsRow w.heap.size 3 1 (.slice oa m ocap) (those ys false (xs.take (k + 1))).length ((those ys false (xs.take (k + 1))).map (Value.int .i64))) := by
          rw [HTK.out, ← HM.out]; exact HROW.out
        have hb6 := B2.out
        go_wp2
        go_roundw
        case rel => exact ⟨k + 1, by omega, by go_num, hown7.out, hb6, u, hun, rfl, HU.out⟩
        case measure => simp [intOf]; omega
      · have htk2 : those ys false (xs.take (k + 1)) = those ys false (xs.take k) ++ [x] := by rw [htk, if_pos (by simp [hmem])]
        have HTK := hide htk2
        have hbb : false = true ↔ u < ys.length ∧ ys.getD u 0 = x := by rw [← hmu]; simp [hmem]
        have HYY := hide hbb
        clear hmu hbb
        clear htk htk2 hmem
        go_wp2_with fail
        refine (HL.out f x _ u HT1.out hf HUL.out).mono ?_
        rintro e w1 ⟨rfl, hb1⟩
        have HT2 := hide (HT1.out.below hb1)
        have HROW := hide (own_belowT HROW0.out hb1)
        have B2 := hide (B0.out.trans (hb1.mono B0.out.size))
        have hsz := Nat.le_trans hsz0 hb1.size
        clear hb1
        go_wp2_with fail
        refine (HH.out u x _ false HT2.out (by simpa using HYY.out)).mono ?_
        rintro e w2 ⟨rfl, rfl⟩
        go_wp2_with (first
          | (at_builtin; refine wpList_append_own _ rfl _ _ 70 rfl w.heap.size 3 i1 (.int .i64 0) 1 8 Try.underlying70 hi1 hy0 hy1 hy2 rfl (by decide) _ _ _ rfl (HROW.out.alloc _) ⟨w1.heap.size, 0, none⟩ 1 1 [.int .i64 x] rfl rfl (cell_one_new _ _ _) (by intro u hu; simp at hu; subst hu; rfl) (by unfold maxLen; omega) (by omega) (by simp; omega) ?_)
          | go_in)
        intro v6 w6 hown6 hgrow6 _
        have hb6 := B2.out.trans (((Below.refl _ _).alloc hsz _).grown hgrow6 (by simp; omega) (fun g hg => (HROW.out.lt g hg).1))
        have hown8 : w6.ownsRow w.heap.size 3 1 v6 (those ys false (xs.take (k + 1))).length ((those ys false (xs.take (k + 1))).map (Value.int .i64)) := by
          rw [HTK.out, List.length_append, List.map_append, ← HM.out]; simpa using hown6
        have hown7 := hide hown8
        clear hown6 hgrow6 hown8
        go_wp2
        go_roundw
        case rel => exact ⟨k + 1, by omega, by go_num, hown7.out, hb6, u, hun, rfl, HU.out⟩
        case measure => simp [intOf]; omega
    · obtain rfl : k = n := by omega
      have e1 : xs.take k = xs := List.take_of_length_le (by rw [HN.out]; exact Nat.le_refl _)
      rw [e1] at hown ⊢
      have HO := hide hown
      have hltI : ¬ (k : Int) < (k : Int) := by omega
      clear e1 hown
      go_wp2
      go_ret
      exact ⟨_, rfl, HO.out, hbel⟩

set_option maxRecDepth 100000 in
set_option maxHeartbeats 4000000 in
theorem those_false (a : Option Addr) (xs : List Int) (n cap : Nat) (b : Option Addr) (ys : List Int) (n2 cap2 : Nat) (w : World) (hn : xs.length = n) (hs : Sl w a xs) (hn2 : n ≤ 1048576) (hm : ys.length = n2) (ht : Sl w b ys) (hm2 : n2 ≤ 1048576) :
    Calls Try.prog 95 #[.slice a n cap, .slice b n2 cap2, .bool false] w fun e w' => RetN w (those ys false xs) e w' := by
  obtain ⟨i1, hi1, hy0, hy1, hy2⟩ := info_parts info_int
  have HS := hide hs
  have HN := hide hn
  have HT := hide ht
  have HM2 := hide hm
  have HL := hide (fun x w bb ht hb => l1Has_any b ys n2 cap2 x w hm ht hm2 bb hb)
  clear hs hn ht hm
  go_enter Try.func95, Try.ntmps95
  go_wp2
  go_loopw [7, 12] (fun ot i wr => ∃ k : Nat, k ≤ n ∧ i = .int .i64 k ∧ wr.ownsRow w.heap.size 3 1 ot (those ys false (xs.take k)).length ((those ys false (xs.take k)).map (Value.int .i64)) ∧ Below w.heap.size w wr) (fun _ i _ => n - (intOf i).toNat)
  case atStart => exact ⟨0, Nat.zero_le _, rfl, World.ownsRow_nil _ _ _ _, Below.refl _ _⟩
  case round =>
    obtain ⟨k, hk, rfl, hown, hbel⟩ := hrel
    obtain ⟨oa, ocap, rfl, _, _⟩ := own_form hown
    by_cases hlt : k < n
    · obtain ⟨b1, off, rfl, hc0⟩ := HS.out k (by rw [HN.out]; exact hlt)
      have hc := (hbel.cell (p := ⟨b1, off + k, none⟩) (blk_lt hc0)).trans hc0
      have hltI : (k : Int) < (n : Int) := by omega
      have htk := those_snoc xs ys false k (by rw [HN.out]; exact hlt)
      obtain ⟨x, hx⟩ : ∃ x, x = xs.getD k 0 := ⟨_, rfl⟩
      rw [← hx] at hc htk
      have hml : (those ys false (xs.take k)).length ≤ 1048576 := by
        have h1 := those_len (xs.take k) ys false
        have h2 : (xs.take k).length ≤ k := by simp; omega
        omega
      obtain ⟨m, hmm⟩ : ∃ m, m = (those ys false (xs.take k)).length := ⟨_, rfl⟩
      rw [← hmm] at hown hml ⊢
      have HM := hide hmm
      have HX := hide hx.symm
      have HT1 := hide (HT.out.below hbel)
      have HROW0 := hide hown
      have B0 := hide hbel
      have hsz0 := hbel.size
      clear hc0 hx hmm hown hbel
      by_cases hmem : x ∈ ys
      · have htk2 : those ys false (xs.take (k + 1)) = those ys false (xs.take k) := by rw [htk, if_neg (by simp [hmem])]
        have HTK := hide htk2
        have hbb : true = true ↔ x ∈ ys := by simp [hmem]
        have HYY := hide hbb
        clear hbb
        clear htk htk2 hmem
        go_wp2_with fail
        refine (HL.out x _ true HT1.out (by simpa using HYY.out)).mono ?_
        rintro e w1 ⟨rfl, hb1⟩
        have HROW := hide (own_belowT HROW0.out hb1)
        have B2 := hide (B0.out.trans (hb1.mono B0.out.size))
        have hsz := Nat.le_trans hsz0 hb1.size
        clear hb1
        have hown7 : Hid (w1.ownsRow w.heap.size 3 1 (.slice oa m ocap) (those ys false (xs.take (k + 1))).length ((those ys false (xs.take (k + 1))).map (Value.int .i64))) := by
          rw [HTK.out, ← HM.out]; exact HROW.out
        have hb6 := B2.out
        go_wp2
        go_roundw
        case rel => exact ⟨k + 1, by omega, by go_num, hown7.out, hb6⟩
        case measure => simp [intOf]; omega
      · have htk2 : those ys false (xs.take (k + 1)) = those ys false (xs.take k) ++ [x] := by rw [htk, if_pos (by simp [hmem])]
        have HTK := hide htk2
        have hbb : false = true ↔ x ∈ ys := by simp [hmem]
        have HYY := hide hbb
        clear hbb
        clear htk htk2 hmem
        go_wp2_with fail
        refine (HL.out x _ false HT1.out (by simpa using HYY.out)).mono ?_
        rintro e w1 ⟨rfl, hb1⟩
        have HROW := hide (own_belowT HROW0.out hb1)
        have B2 := hide (B0.out.trans (hb1.mono B0.out.size))
        have hsz := Nat.le_trans hsz0 hb1.size
        clear hb1
        go_wp2_with (first
          | (at_builtin; refine wpList_append_own _ rfl _ _ 22 rfl w.heap.size 3 i1 (.int .i64 0) 1 8 Try.underlying22 hi1 hy0 hy1 hy2 rfl (by decide) _ _ _ rfl (HROW.out.alloc _) ⟨w1.heap.size, 0, none⟩ 1 1 [.int .i64 x] rfl rfl (cell_one_new _ _ _) (by intro u hu; simp at hu; subst hu; rfl) (by unfold maxLen; omega) (by omega) (by simp; omega) ?_)
          | go_in)
        intro v6 w6 hown6 hgrow6 _
        have hb6 := B2.out.trans (((Below.refl _ _).alloc hsz _).grown hgrow6 (by simp; omega) (fun g hg => (HROW.out.lt g hg).1))
        have hown8 : w6.ownsRow w.heap.size 3 1 v6 (those ys false (xs.take (k + 1))).length ((those ys false (xs.take (k + 1))).map (Value.int .i64)) := by
          rw [HTK.out, List.length_append, List.map_append, ← HM.out]; simpa using hown6
        have hown7 := hide hown8
        clear hown6 hgrow6 hown8
        go_wp2
        go_roundw
        case rel => exact ⟨k + 1, by omega, by go_num, hown7.out, hb6⟩
        case measure => simp [intOf]; omega
    · obtain rfl : k = n := by omega
      have e1 : xs.take k = xs := List.take_of_length_le (by rw [HN.out]; exact Nat.le_refl _)
      rw [e1] at hown ⊢
      have HO := hide hown
      have hltI : ¬ (k : Int) < (k : Int) := by omega
      clear e1 hown
      go_wp2
      go_ret
      exact ⟨_, rfl, HO.out, hbel⟩
end Go.Proofs.Ythmekhhfihjclbd.L4

namespace Go.Proofs.Ythmekhhfihjclbd.L4
open Go.RowKit L1
set_option linter.unusedVariables false

set_option maxRecDepth 100000 in
set_option maxHeartbeats 1000000 in
theorem without_any (a : Option Addr) (xs : List Int) (n cap : Nat) (b : Option Addr) (ys : List Int) (n2 cap2 : Nat) (w : World) (hn : xs.length = n) (hs : SlC w a n cap xs) (hn2 : n ≤ 1048576) (hm : ys.length = n2) (ht : SlC w b n2 cap2 ys) (hm2 : n2 ≤ 1048576) (hrx : Rise xs) (hry : Rise ys) :
    Calls Try.prog 102 #[.slice a n cap, .slice b n2 cap2] w fun e w' => RetN w (those ys false xs) e w' := by
  have C := hide (chosen_false a xs n cap b ys n2 cap2 w hn hs.sl hn2 hm ht hm2 hrx hry)
  clear hn hs hm ht hrx hry
  go_enter Try.func102, Try.ntmps102
  go_wp2_with fail
  refine C.out.mono ?_
  rintro e w1 ⟨v, rfl, ho, hb⟩
  have HO := hide ho
  have HB := hide hb
  obtain ⟨a5, c5, rfl⟩ := own_shapeT ho
  clear ho hb
  go_wp2
  go_ret
  exact ⟨_, rfl, HO.out, HB.out⟩
end Go.Proofs.Ythmekhhfihjclbd.L4
