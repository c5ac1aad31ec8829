/-
  Contract: impl.labelsInOrder: the labels of a map by name, in order, in new memory, whichever order the map is gone through in.
-/
import Derived.Test.YthagpceagifjnaaDoorL3MapMath
import Derived.Test.YthagpceagifjnaaDoorL3SortL
import Derived.Test.YthagpceagifjnaaDoorL3SpecMerge
namespace Go.Proofs.YthagpceagifjnaaDoor.L3
open Go.RowKit L1 Go.Maps
set_option linter.unusedVariables false

theorem lawS : Keyed Tryd.prog 9 := string_keyed Tryd.underlying9
theorem key_invP {P : Program} {t : TypeId} (hk : P.underlying t = some .string) {key : Value} {k : Lit} (h : keyOf P t key = some k) : ∃ s : ByteArray, key = .string s ∧ k = kl s := by
  cases key <;> simp [keyOf, hk, mapKey] at h
  rename_i s
  exact ⟨s, rfl, by unfold kl; first | exact h.2.symm | exact h.1.symm | exact h.symm⟩
theorem key_inv {key : Value} {k : Lit} (h : keyOf Tryd.prog 9 key = some k) : ∃ s : ByteArray, key = .string s ∧ k = kl s := key_invP Tryd.underlying9 h
theorem cell_two_new2L (w : World) (o : Obj) (p q : Value) (t : TypeId) : ∀ j u, [p, q][j]? = some u → ((w.alloc o).alloc (.cells #[p, q] t)).cell? ((⟨w.heap.size + 1, 0, none⟩ : Addr).add j) = some u := by
  intro j u h
  have := cell_two_newL (w.alloc o) p q t j u h
  simpa using this
theorem upL_of_sorted {zs : List Lb} (h1 : zs.Pairwise fun p q => ¬ Ahead q.1 p.1) (h2 : zs.Pairwise fun p q => p.1 ≠ q.1) : UpL zs :=
  (h1.and h2).imp fun ⟨a, b⟩ => Classical.byContradiction fun h => b (ahead_tri h a)

set_option maxRecDepth 100000 in
set_option maxHeartbeats 4000000 in
theorem inOrder_any (mb n : Nat) (D : DataW Unit) (M : ByteArray → Option Lb) (w : World) (hown : w.ownsMap Tryd.prog 9 RL mb n D) (hn : n ≤ 1000) (hrep : RepM D M) :
    Calls Tryd.prog 123 #[.map (some mb)] w fun e w' => ∃ v zs, e = .returned v ∧ w'.ownsRow w.heap.size 105 2 v zs.length (flatL zs) ∧ UpL zs ∧ (∀ x, x ∈ zs ↔ M x.1 = some x) ∧ Below w.heap.size w w' := by
  have hml := hown.lt
  have hsz := hown.size_le
  obtain ⟨i1, hi1, hy0, hy1, hy2⟩ := info_parts info_lab
  have HREP := hide hrep
  have HOWN := hide hown
  clear hrep hown
  go_enter Tryd.func123, Tryd.ntmps123
  go_wp2_with (first
    | (at_range; refine wpList_range_own _ rfl _ 117 rfl 9 105 lawS Tryd.underlying117 _ mb n _ rfl HOWN.out ?_; intro w0 hrg0 hg0 hs0)
    | go_in)
  go_frame
  have hb0 : Below w.heap.size w w0 := (Below.refl _ _).grown hg0 (Nat.le_refl _) (fun k hk => by cases hk)
  have HRG0 := hide hrg0
  have HB0 := hide hb0
  clear hrg0 hg0 hs0 hb0
  go_loopw [3] (fun ot wr => ∃ (left : Lit → Bool) (cnt : Nat) (ys : List Lb), wr.ranges Tryd.prog 9 RL mb w.heap.size n D left cnt ∧ ys.length + cnt ≤ n ∧ Hid (Col M left ys) ∧ wr.ownsRow w.heap.size 105 2 ot ys.length (flatL ys) ∧ Hid (ot.ownBlock ≠ some w.heap.size) ∧ Below w.heap.size w wr) (fun _ wr => wr.rangeLeft mb w.heap.size)
  case atStart => exact ⟨_, _, [], HRG0.out, by simpa using hsz, col_start HREP.out, World.ownsRow_nil _ _ _ _, by show Value.ownBlock _ ≠ _; simp [Value.ownBlock], HB0.out⟩
  case round =>
    obtain ⟨left, cnt, ys, hrg, hcs, HCOL, hrow, HNE, hnx⟩ := hrel
    obtain ⟨oa, ocap, rfl⟩ := own_shapeL hrow
    have hsz1 := hnx.size
    have HROW := hide hrow
    have HNX := hide hnx
    have HRG := hide hrg
    clear hrow hnx
    go_wp2_with (first
      | (at_next; refine wpList_next_ranges _ rfl _ rfl 9 lawS RL Value.string mkLV (fun key k hkey => by obtain ⟨s, rfl, _⟩ := key_inv hkey; exact ⟨s, rfl⟩) (fun v y hv => by obtain ⟨x, rfl, _⟩ := RL_inv hv; exact ⟨x, rfl⟩) mb w.heap.size n _ _ _ rfl hrg ?_ ?_)
      | go_in)
    · intro hc0 hl0
      have hmem := col_end HCOL.out hl0
      have hap := HCOL.out.apart
      have HME := hide hmem
      have HAP := hide hap
      clear hmem hap hrg hc0 hl0 HRG
      cases ys with
      | nil =>
        have C := hide (fun fv w => sortL_none oa ocap fv w)
        go_wp2_with fail
        refine (C.out _ _).mono ?_
        rintro e w3 ⟨rfl, hw3⟩
        subst hw3
        go_wp2
        go_ret
        exact ⟨_, [], rfl, HROW.out, List.Pairwise.nil, HME.out, HNX.out⟩
      | cons y0 ys0 =>
        obtain ⟨ys, hys⟩ : ∃ ys, ys = y0 :: ys0 := ⟨_, rfl⟩
        have hne : ys.length ≠ 0 := by rw [hys]; simp
        rw [← hys] at HME HAP HROW hcs ⊢
        clear hys
        obtain ⟨g, e⟩ : ∃ g, oa = some ⟨g, 0, none⟩ := by
          rcases HROW.out.2 with ⟨_, h0⟩ | ⟨g, cap, cur, hv, _⟩
          · exact absurd h0 hne
          · cases hv; exact ⟨g, rfl⟩
        subst e
        have C := hide (sortL_any w.heap.size g ys.length ocap ys wr rfl (by omega) HROW.out)
        have hgb := (HROW.out.lt g rfl).1
        go_wp2_with fail
        refine C.out.mono ?_
        rintro e w3 ⟨rfl, zs, hperm, hsort, hown3, hgr3⟩
        have hup : UpL zs := upL_of_sorted hsort (((hperm.pairwise_iff (fun {_ _} h => Ne.symm h))).2 HAP.out)
        have hmm : ∀ x, x ∈ zs ↔ M x.1 = some x := fun x => (hperm.mem_iff).trans (HME.out x)
        have hlen : zs.length = ys.length := hperm.length_eq
        have B3 := hide (HNX.out.grown hgr3 hsz1 (fun k hk => by cases hk; exact hgb))
        rw [← hlen] at hown3 ⊢
        have O3 := hide hown3
        have HUP := hide hup
        have HMM := hide hmm
        clear hperm hsort hown3 hgr3 hup hmm hlen
        go_wp2
        go_ret
        exact ⟨_, zs, rfl, O3.out, HUP.out, HMM.out, B3.out⟩
    · intro s c1 c2 k y1 y2 w1 cnt1 hkey hlk hRv hat hrg1 hlt hg1 hs1 hen
      obtain ⟨s', es, rfl⟩ := key_inv hkey
      cases es
      have hRv2 := (RL_mk (c1, c2)).symm.trans hRv
      obtain rfl : y1 = elD (c1, c2) := by have := Option.some.inj hRv2; exact (congrArg Prod.fst this).symm
      have hcol := col_step HREP.out HCOL.out hlk hat
      have hrow1 := HROW.out.kept hg1 (by cases oa with
        | none => exact .inl rfl
        | some x => exact .inr HNE.out)
      have hnx1 := HNX.out.grown hg1 hsz1 (fun k hk => by cases hk; exact Nat.le_refl _)
      have hz1 := hnx1.size
      have HCOL1 := hide hcol
      have HROW1 := hide hrow1
      have HNX1 := hide hnx1
      have HRG1 := hide hrg1
      have hrl := hrg1.lt
      have hmk : mkLV (c1, c2) = .agg #[.string c1, .string c2] := rfl
      rw [hmk] at hen ⊢
      clear hcol hrow1 hnx1 hat hlk hkey hg1 hs1 hmk hrg hrg1 hRv hRv2
      go_wp2_with (first
        | (at_builtin; refine wpList_append_own_at _ rfl _ _ 61 rfl w.heap.size 105 i1 (.agg #[.string ByteArray.empty, .string ByteArray.empty]) 2 32 Tryd.underlying61 hi1 hy0 hy1 hy2 rfl (by decide) _ _ _ rfl ((HROW1.out.alloc _).alloc _) ⟨w1.heap.size + 1, 0, none⟩ 1 1 [.string c1, .string c2] rfl rfl (cell_two_new2L _ _ _ _ _) (by intro u hu; simp at hu; rcases hu with rfl | rfl <;> rfl) (by unfold maxLen; omega) (by omega) (by simp; omega) ?_)
        | go_in)
      intro v6 w6 hown6 hgrow6 _ hblk6
      have hg6 := (World.grownBy_alloc w1 _ (Value.slice oa ys.length ocap).ownBlock).trans ((World.grownBy_alloc _ _ _).trans hgrow6)
      have hb6 := HNX1.out.grown hg6 hz1 (fun g hg => (HROW1.out.lt g hg).1)
      have hmlt := HOWN.out.lt
      have hrg6 := HRG1.out.kept hg6 (fun e => by have := (HROW1.out.lt mb e.symm).1; omega) (Ne.symm HNE.out)
      have hne6 : v6.ownBlock ≠ some w.heap.size := by
        rcases hblk6 with e | e
        · rw [e]; exact HNE.out
        · rw [e]; intro e2; simp at e2; omega
      have hown8 : w6.ownsRow w.heap.size 105 2 v6 (ys ++ [(c1, c2)]).length (flatL (ys ++ [(c1, c2)])) := by rw [flatL_append, List.length_append]; simpa [flatL] using hown6
      have O6 := hide hown8
      have NE6 := hide hne6
      have B6 := hide hb6
      have R6 := hide hrg6
      clear hown6 hgrow6 hblk6 hg6 hb6 hne6 hown8 hrg6
      go_wp2
      go_roundw
      case rel => exact ⟨_, cnt1, ys ++ [(c1, c2)], R6.out, by rw [List.length_append]; simp; omega, HCOL1.out, O6.out, NE6.out, B6.out⟩
      case measure => rw [R6.out.left_eq, HRG.out.left_eq]; exact hlt
end Go.Proofs.YthagpceagifjnaaDoor.L3
