/-
  Contracts: slices.Clone of a form, impl.NotForm, spec.NotForm: a form with a FoNot of its last part behind all, in new memory.
-/
import Derived.Test.YtapffbbmofhpoabBundle4
namespace Go.Proofs.Ytapffbbmofhpoab.L5
open Go.RowKit L1 L4
set_option linter.unusedVariables false

/-- A form turned. -/
def notP (l : List Pr) : List Pr := l ++ [⟨8, ByteArray.empty, (l.length : Int) - 1, 0⟩]
open Classical in
noncomputable def notRes (l : List Pr) : Option (List Pr) := if GoodF l ∧ l.length ≠ 24 then some (notP l) else none
theorem notRes_len (l : List Pr) : ((notRes l).getD []).length ≤ 24 := by
  unfold notRes
  split
  · rename_i h
    have h1 := h.1.1
    have h2 := h.2
    simp only [Option.getD_some, notP, List.length_append, List.length_cons, List.length_nil]
    omega
  · simp
/-- Parts that a call hands back, in new memory, and whether there are some. -/
def RetP (w : World) (r : Option (List Pr)) (e : Ending) (w' : World) : Prop :=
  ∃ v, e = .returned (.tuple #[v, .bool r.isSome]) ∧ w'.ownsRow w.heap.size 116 4 v (r.getD []).length (flatP (r.getD [])) ∧ Below w.heap.size w w'
theorem retP_none {w w' : World} (hb : Below w.heap.size w w') : RetP w none (.returned (.tuple #[.slice none 0 0, .bool false])) w' := ⟨_, rfl, World.ownsRow_nil _ _ _ _, hb⟩
theorem own_emptyP (w : World) (base : Nat) (hb : base ≤ w.heap.size) : (w.alloc (.cells #[] 116)).ownsRow base 116 4 (.slice (some ⟨w.heap.size, 0, none⟩) 0 0) 0 [] :=
  ⟨rfl, .inr ⟨w.heap.size, 0, #[], rfl, hb, by show (w.heap.push _)[w.heap.size]? = _; simp, Nat.le_refl _, by unfold maxLen; omega, rfl, rfl⟩⟩
theorem cell_four_new (w : World) (a b c d : Value) (t : TypeId) : ∀ j u, [a, b, c, d][j]? = some u → (w.alloc (.cells #[a, b, c, d] t)).cell? ((⟨w.heap.size, 0, none⟩ : Addr).add j) = some u := by
  intro j u h
  rw [addr_add]
  match j, h with
  | 0, h => simp at h; subst h; simp
  | 1, h => simp at h; subst h; simp
  | 2, h => simp at h; subst h; simp
  | 3, h => simp at h; subst h; simp
  | j + 4, h => simp at h

set_option maxRecDepth 100000 in
set_option maxHeartbeats 1000000 in
theorem cloneP_some (b off : Nat) (l : List Pr) (n cap : Nat) (w : World) (hn : l.length = n) (hs : SlP w (some ⟨b, off, none⟩) l) (hn2 : n ≤ 1048576) :
    Calls Try.prog 96 #[.slice (some ⟨b, off, none⟩) n cap] w fun e w' => ∃ g c, e = .returned (.slice (some ⟨g, 0, none⟩) n c) ∧ w'.ownsRow w.heap.size 116 4 (.slice (some ⟨g, 0, none⟩) n c) n (flatP l) ∧ Below w.heap.size w w' := by
  obtain ⟨i1, hi1, hy0, hy1, hy2⟩ := info_parts info_part
  have hnil : ∀ w, (binOp .eql 52 (.slice (some ⟨b, off, none⟩) n cap) (.slice none 0 0)).run Try.prog w = .ok (.bool false) w := fun w => Lib.run_eql_slice_nil w _ _ _ _ _ _ _ Try.underlying52
  have HS := hide hs
  have HN := hide hn
  clear hs hn
  go_enter Try.func96, Try.ntmps96
  go_wp2_with (first
    | (at_builtin; refine wpList_append_own _ rfl _ _ 52 rfl w.heap.size 116 i1 (.agg #[.int .i64 0, .string ByteArray.empty, .int .i64 0, .int .i64 0]) 4 40 Try.underlying52 hi1 hy0 hy1 hy2 rfl (by decide) (.slice (some ⟨w.heap.size, 0, none⟩) 0 0) 0 [] rfl (own_emptyP w _ (Nat.le_refl _)) ⟨b, off, none⟩ n cap (flatP l) rfl (by rw [flatP_len, HN.out]) (slP_cells (HS.out.below ((Below.refl _ _).alloc (Nat.le_refl _) _))) (flatP_one l) (by unfold maxLen; omega) (by omega) (by simp) ?_)
    | go_in)
  intro v3 w3 hown3 hgrow3 hnil3
  obtain ⟨g3, c3, rfl, _, _⟩ := own_some hown3 (by first | exact hnil3 | (intro e; have := (hnil3.1 e).1; cases this))
  have hb3 : Below w.heap.size w w3 := ((Below.refl _ _).alloc (Nat.le_refl _) _).grown hgrow3 (by simp) (fun g hg => by cases hg; exact Nat.le_refl _)
  try simp only [List.nil_append, Nat.zero_add] at hown3
  have O3 := hide hown3
  have B3 := hide hb3
  clear hown3 hgrow3 hnil3 hb3
  go_wp2
  go_ret
  exact ⟨g3, c3, rfl, O3.out, B3.out⟩

set_option maxRecDepth 100000 in
set_option maxHeartbeats 2000000 in
theorem implNotForm_any (a : Option Addr) (l : List Pr) (n cap : Nat) (w : World) (hn : l.length = n) (hs : SlP w a l) (hn2 : n ≤ 1048576) (hst : TxP l) (r : Option (List Pr)) (hr : r = notRes l) :
    Calls Try.prog 39 #[.slice a n cap] w fun e w' => RetP w r e w' := by
  by_cases hg : GoodF l
  · have C1 := hide (goodForm_any a l n cap w hn hs hn2 hst true (iff_of_true rfl hg))
    by_cases h24 : n = 24
    · subst h24
      have hr' : r = none := by rw [hr]; unfold notRes; rw [if_neg (fun h => h.2 hn)]
      subst hr'
      clear hr hn hs hst hg
      go_enter Try.func39, Try.ntmps39
      go_wp2_with fail
      refine C1.out.mono ?_
      rintro e w1 ⟨rfl, hb1⟩
      go_wp2
      go_ret2
      exact retP_none hb1
    · obtain ⟨i1, hi1, hy0, hy1, hy2⟩ := info_parts info_part
      have hr' : r = some (notP l) := by rw [hr]; unfold notRes; rw [if_pos ⟨hg, by omega⟩]
      have HR := hide hr'
      have hl1 := hg.1
      obtain ⟨b, off, rfl, _⟩ := hs 0 (by omega)
      have C2 := hide (fun w hs => cloneP_some b off l n cap w hn hs hn2)
      have HS := hide hs
      have HN := hide hn
      have h24' : ((n : Int) == 24) = false := by simp; omega
      rw [hn] at hl1
      clear hr hr' hn hs hst hg h24
      go_enter Try.func39, Try.ntmps39
      go_wp2_with fail
      refine C1.out.mono ?_
      rintro e w1 ⟨rfl, hb1⟩
      have B1 := hide hb1
      clear hb1
      go_wp2_with fail
      refine (C2.out _ (HS.out.below B1.out)).mono ?_
      rintro e w2 ⟨g, c, rfl, ho2, hb2⟩
      have O2 := hide (own_baseT ho2 B1.out.size)
      have B2 := hide (B1.out.trans (hb2.mono B1.out.size))
      have hsz := B2.out.size
      clear ho2 hb2
      go_wp2_with (first
        | (at_builtin; refine wpList_append_own _ rfl _ _ 52 rfl w.heap.size 116 i1 (.agg #[.int .i64 0, .string ByteArray.empty, .int .i64 0, .int .i64 0]) 4 40 Try.underlying52 hi1 hy0 hy1 hy2 rfl (by decide) _ _ _ rfl (O2.out.alloc _) ⟨w2.heap.size, 0, none⟩ 1 1 [.int .i64 8, .string ByteArray.empty, .int .i64 ((n : Int) - 1), .int .i64 0] rfl rfl (cell_four_new _ _ _ _ _ _) (by intro u hu; simp at hu; rcases hu with rfl | rfl | rfl | rfl <;> rfl) (by unfold maxLen; omega) (by omega) (by simp; omega) ?_)
        | go_in)
      intro v3 w3 hown3 hgrow3 _
      have hb3 := B2.out.trans (((Below.refl _ _).alloc hsz _).grown hgrow3 (by simp; omega) (fun g hg => (O2.out.lt g hg).1))
      have hown4 : w3.ownsRow w.heap.size 116 4 v3 (notP l).length (flatP (notP l)) := by
        unfold notP
        rw [flatP_append, List.length_append, HN.out]
        simpa [flatP] using hown3
      obtain ⟨a3, c3, rfl⟩ := own_shapeT hown3
      have O3 := hide hown4
      have B3 := hide hb3
      clear hown3 hgrow3 hb3 hown4
      go_wp2
      go_ret2
      exact ⟨_, by rw [HR.out]; rfl, by rw [HR.out]; exact O3.out, B3.out⟩
  · have C1 := hide (goodForm_any a l n cap w hn hs hn2 hst false (iff_of_false (by simp) hg))
    have hr' : r = none := by rw [hr]; unfold notRes; rw [if_neg (fun h => hg h.1)]
    subst hr'
    clear hr hn hs hst hg
    go_enter Try.func39, Try.ntmps39
    go_wp2_with fail
    refine C1.out.mono ?_
    rintro e w1 ⟨rfl, hb1⟩
    go_wp2
    go_ret2
    exact retP_none hb1

set_option maxRecDepth 100000 in
set_option maxHeartbeats 2000000 in
theorem specNotForm_any (a : Option Addr) (l : List Pr) (n cap : Nat) (w : World) (hn : l.length = n) (hs : SlP w a l) (hn2 : n ≤ 1048576) (hst : TxP l) (r : Option (List Pr)) (hr : r = notRes l) :
    Calls Try.prog 54 #[.slice a n cap] w fun e w' => RetP w r e w' := by
  by_cases hg : GoodF l
  · have C1 := hide (specGoodForm_any a l n cap w hn hs hn2 hst true (iff_of_true rfl hg))
    by_cases h24 : n = 24
    · subst h24
      have hr' : r = none := by rw [hr]; unfold notRes; rw [if_neg (fun h => h.2 hn)]
      subst hr'
      clear hr hn hs hst hg
      go_enter Try.func54, Try.ntmps54
      go_wp2_with fail
      refine C1.out.mono ?_
      rintro e w1 ⟨rfl, hb1⟩
      go_wp2
      go_ret2
      exact retP_none hb1
    · obtain ⟨i1, hi1, hy0, hy1, hy2⟩ := info_parts info_part
      have hr' : r = some (notP l) := by rw [hr]; unfold notRes; rw [if_pos ⟨hg, by omega⟩]
      have HR := hide hr'
      have hl1 := hg.1
      obtain ⟨b, off, rfl, _⟩ := hs 0 (by omega)
      have HS := hide hs
      have HN := hide hn
      have h24' : ((n : Int) == 24) = false := by simp; omega
      rw [hn] at hl1
      clear hr hr' hn hs hst hg h24
      go_enter Try.func54, Try.ntmps54
      go_wp2_with fail
      refine C1.out.mono ?_
      rintro e w1 ⟨rfl, hb1⟩
      have B1 := hide hb1
      have S1 := hide (HS.out.below hb1)
      have hz1 := hb1.size
      have E1 := hide (own_emptyP w1 w.heap.size hb1.size)
      clear hb1
      go_wp2_with (first
        | (at_builtin; refine wpList_append_own _ rfl _ _ 52 rfl w.heap.size 116 i1 (.agg #[.int .i64 0, .string ByteArray.empty, .int .i64 0, .int .i64 0]) 4 40 Try.underlying52 hi1 hy0 hy1 hy2 rfl (by decide) (.slice (some ⟨w1.heap.size, 0, none⟩) 0 0) 0 [] rfl E1.out ⟨b, off, none⟩ n cap (flatP l) rfl (by rw [flatP_len, HN.out]) (slP_cells (S1.out.below ((Below.refl _ _).alloc (Nat.le_refl _) _))) (flatP_one l) (by unfold maxLen; omega) (by omega) (by simp; omega) ?_)
        | go_in)
      intro v2 w2 hown2 hgrow2 _
      have hb2 := B1.out.trans (((Below.refl _ _).alloc hz1 _).grown hgrow2 (by simp; omega) (fun g hg => by cases hg; exact hz1))
      obtain ⟨a2, c2, rfl⟩ := own_shapeT hown2
      try simp only [List.nil_append, Nat.zero_add] at hown2
      have O2 := hide hown2
      have B2 := hide hb2
      have hsz := hb2.size
      clear hown2 hgrow2 hb2
      go_wp2_with (first
        | (at_builtin; refine wpList_append_own _ rfl _ _ 52 rfl w.heap.size 116 i1 (.agg #[.int .i64 0, .string ByteArray.empty, .int .i64 0, .int .i64 0]) 4 40 Try.underlying52 hi1 hy0 hy1 hy2 rfl (by decide) _ _ _ rfl (O2.out.alloc _) ⟨w2.heap.size, 0, none⟩ 1 1 [.int .i64 8, .string ByteArray.empty, .int .i64 ((n : Int) - 1), .int .i64 0] rfl rfl (cell_four_new _ _ _ _ _ _) (by intro u hu; simp at hu; rcases hu with rfl | rfl | rfl | rfl <;> rfl) (by unfold maxLen; omega) (by omega) (by simp; omega) ?_)
        | go_in)
      intro v3 w3 hown3 hgrow3 _
      have hb3 := B2.out.trans (((Below.refl _ _).alloc hsz _).grown hgrow3 (by simp; omega) (fun g hg => (O2.out.lt g hg).1))
      have hown4 : w3.ownsRow w.heap.size 116 4 v3 (notP l).length (flatP (notP l)) := by
        unfold notP
        rw [flatP_append, List.length_append, HN.out]
        simpa [flatP] using hown3
      obtain ⟨a3, c3, rfl⟩ := own_shapeT hown3
      have O3 := hide hown4
      have B3 := hide hb3
      clear hown3 hgrow3 hb3 hown4
      go_wp2
      go_ret2
      exact ⟨_, by rw [HR.out]; rfl, by rw [HR.out]; exact O3.out, B3.out⟩
  · have C1 := hide (specGoodForm_any a l n cap w hn hs hn2 hst false (iff_of_false (by simp) hg))
    have hr' : r = none := by rw [hr]; unfold notRes; rw [if_neg (fun h => hg h.1)]
    subst hr'
    clear hr hn hs hst hg
    go_enter Try.func54, Try.ntmps54
    go_wp2_with fail
    refine C1.out.mono ?_
    rintro e w1 ⟨rfl, hb1⟩
    go_wp2
    go_ret2
    exact retP_none hb1
end Go.Proofs.Ytapffbbmofhpoab.L5
