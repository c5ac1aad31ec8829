/-
  Contracts: slices.Clone of a query, impl.NotQuery, spec.NotQuery: a query with a QuNot of its last part behind all, in new memory.
-/
import Derived.Test.YthicdnkngpiccabL4SpecQu
namespace Go.Proofs.Ythicdnkngpiccab.L4
open Go.RowKit L1 L3
set_option linter.unusedVariables false

/-- A query turned. -/
def notQ (l : List Qr) : List Qr := l ++ [⟨5, ByteArray.empty, ByteArray.empty, (l.length : Int) - 1, 0⟩]
open Classical in
noncomputable def notRes (l : List Qr) : Option (List Qr) := if GoodQ l ∧ l.length ≠ 20 then some (notQ l) else none
theorem notRes_len (l : List Qr) : ((notRes l).getD []).length ≤ 20 := by
  unfold notRes
  split
  · rename_i h
    have h1 := h.1.1
    have h2 := h.2
    simp only [Option.getD_some, notQ, List.length_append, List.length_cons, List.length_nil]
    omega
  · simp
/-- Parts that a call hands back, in new memory, and whether there are some. -/
def RetQ (w : World) (r : Option (List Qr)) (e : Ending) (w' : World) : Prop :=
  ∃ v, e = .returned (.tuple #[v, .bool r.isSome]) ∧ w'.ownsRow w.heap.size 51 5 v (r.getD []).length (flatQ (r.getD [])) ∧ Below w.heap.size w w'
theorem retQ_none {w w' : World} (hb : Below w.heap.size w w') : RetQ w none (.returned (.tuple #[.slice none 0 0, .bool false])) w' := ⟨_, rfl, World.ownsRow_nil _ _ _ _, hb⟩
theorem own_emptyQ (w : World) (base : Nat) (hb : base ≤ w.heap.size) : (w.alloc (.cells #[] 51)).ownsRow base 51 5 (.slice (some ⟨w.heap.size, 0, none⟩) 0 0) 0 [] :=
  ⟨rfl, .inr ⟨w.heap.size, 0, #[], rfl, hb, by show (w.heap.push _)[w.heap.size]? = _; simp, Nat.le_refl _, by unfold maxLen; omega, rfl, rfl⟩⟩
theorem cell_five_new (w : World) (a b c d e : Value) (t : TypeId) : ∀ j u, [a, b, c, d, e][j]? = some u → (w.alloc (.cells #[a, b, c, d, e] t)).cell? ((⟨w.heap.size, 0, none⟩ : Addr).add j) = some u := by
  intro j u h
  rw [addr_add]
  match j, h with
  | 0, h => simp at h; subst h; simp
  | 1, h => simp at h; subst h; simp
  | 2, h => simp at h; subst h; simp
  | 3, h => simp at h; subst h; simp
  | 4, h => simp at h; subst h; simp
  | j + 5, h => simp at h

set_option maxRecDepth 100000 in
set_option maxHeartbeats 1000000 in
theorem cloneQ_some (b off : Nat) (l : List Qr) (n cap : Nat) (w : World) (hn : l.length = n) (hs : SlQ w (some ⟨b, off, none⟩) l) (hn2 : n ≤ 1048576) :
    Calls Try.prog 48 #[.slice (some ⟨b, off, none⟩) n cap] w fun e w' => ∃ g c, e = .returned (.slice (some ⟨g, 0, none⟩) n c) ∧ w'.ownsRow w.heap.size 51 5 (.slice (some ⟨g, 0, none⟩) n c) n (flatQ l) ∧ Below w.heap.size w w' := by
  obtain ⟨i1, hi1, hy0, hy1, hy2⟩ := info_parts info_qu
  have hnil : ∀ w, (binOp .eql 36 (.slice (some ⟨b, off, none⟩) n cap) (.slice none 0 0)).run Try.prog w = .ok (.bool false) w := fun w => Lib.run_eql_slice_nil w _ _ _ _ _ _ _ Try.underlying36
  have HS := hide hs
  have HN := hide hn
  clear hs hn
  go_enter Try.func48, Try.ntmps48
  go_wp2_with (first
    | (at_builtin; refine wpList_append_own _ rfl _ _ 36 rfl w.heap.size 51 i1 (.agg #[.int .i64 0, .string ByteArray.empty, .string ByteArray.empty, .int .i64 0, .int .i64 0]) 5 56 Try.underlying36 hi1 hy0 hy1 hy2 rfl (by decide) (.slice (some ⟨w.heap.size, 0, none⟩) 0 0) 0 [] rfl (own_emptyQ w _ (Nat.le_refl _)) ⟨b, off, none⟩ n cap (flatQ l) rfl (by rw [flatQ_len, HN.out]) (slQ_cells (HS.out.below ((Below.refl _ _).alloc (Nat.le_refl _) _))) (flatQ_one l) (by unfold maxLen; omega) (by omega) (by simp) ?_)
    | go_in)
  intro v3 w3 hown3 hgrow3 hnil3
  obtain ⟨g3, c3, rfl, _, _⟩ := own_some hown3 (by first | exact hnil3 | (intro e; have := (hnil3.1 e).1; cases this))
  have hb3 : Below w.heap.size w w3 := ((Below.refl _ _).alloc (Nat.le_refl _) _).grown hgrow3 (by simp) (fun g hg => by cases hg; exact Nat.le_refl _)
  try simp only [List.nil_append, Nat.zero_add] at hown3
  have O3 := hide hown3
  have B3 := hide hb3
  clear hown3 hgrow3 hnil3 hb3
  go_wp2
  go_ret
  exact ⟨g3, c3, rfl, O3.out, B3.out⟩

set_option maxRecDepth 100000 in
set_option maxHeartbeats 2000000 in
theorem implNotQuery_any (a : Option Addr) (l : List Qr) (n cap : Nat) (w : World) (hn : l.length = n) (hs : SlQ w a l) (hn2 : n ≤ 1048576) (hst : TxQ l) (r : Option (List Qr)) (hr : r = notRes l) :
    Calls Try.prog 23 #[.slice a n cap] w fun e w' => RetQ w r e w' := by
  by_cases hg : GoodQ l
  · have C1 := hide (goodQuery_any a l n cap w hn hs hn2 hst true (iff_of_true rfl hg))
    by_cases h20 : n = 20
    · subst h20
      have hr' : r = none := by rw [hr]; unfold notRes; rw [if_neg (fun h => h.2 hn)]
      subst hr'
      clear hr hn hs hst hg
      go_enter Try.func23, Try.ntmps23
      go_wp2_with fail
      refine C1.out.mono ?_
      rintro e w1 ⟨rfl, hb1⟩
      go_wp2
      go_ret2
      exact retQ_none hb1
    · obtain ⟨i1, hi1, hy0, hy1, hy2⟩ := info_parts info_qu
      have hr' : r = some (notQ l) := by rw [hr]; unfold notRes; rw [if_pos ⟨hg, by omega⟩]
      have HR := hide hr'
      have hl1 := hg.1
      obtain ⟨b, off, rfl, _⟩ := hs 0 (by omega)
      have C2 := hide (fun w hs => cloneQ_some b off l n cap w hn hs hn2)
      have HS := hide hs
      have HN := hide hn
      have h20' : ((n : Int) == 20) = false := by simp; omega
      rw [hn] at hl1
      clear hr hr' hn hs hst hg h20
      go_enter Try.func23, Try.ntmps23
      go_wp2_with fail
      refine C1.out.mono ?_
      rintro e w1 ⟨rfl, hb1⟩
      have B1 := hide hb1
      clear hb1
      go_wp2_with fail
      refine (C2.out _ (HS.out.below B1.out)).mono ?_
      rintro e w2 ⟨g, c, rfl, ho2, hb2⟩
      have O2 := hide (own_baseT ho2 B1.out.size)
      have B2 := hide (B1.out.trans (hb2.mono B1.out.size))
      have hsz := B2.out.size
      clear ho2 hb2
      go_wp2_with (first
        | (at_builtin; refine wpList_append_own _ rfl _ _ 36 rfl w.heap.size 51 i1 (.agg #[.int .i64 0, .string ByteArray.empty, .string ByteArray.empty, .int .i64 0, .int .i64 0]) 5 56 Try.underlying36 hi1 hy0 hy1 hy2 rfl (by decide) _ _ _ rfl (O2.out.alloc _) ⟨w2.heap.size, 0, none⟩ 1 1 [.int .i64 5, .string ByteArray.empty, .string ByteArray.empty, .int .i64 ((n : Int) - 1), .int .i64 0] rfl rfl (cell_five_new _ _ _ _ _ _ _) (by intro u hu; simp at hu; rcases hu with rfl | rfl | rfl | rfl | rfl <;> rfl) (by unfold maxLen; omega) (by omega) (by simp; omega) ?_)
        | go_in)
      intro v3 w3 hown3 hgrow3 _
      have hb3 := B2.out.trans (((Below.refl _ _).alloc hsz _).grown hgrow3 (by simp; omega) (fun g hg => (O2.out.lt g hg).1))
      have hown4 : w3.ownsRow w.heap.size 51 5 v3 (notQ l).length (flatQ (notQ l)) := by
        unfold notQ
        rw [flatQ_append, List.length_append, HN.out]
        simpa [flatQ] using hown3
      obtain ⟨a3, c3, rfl⟩ := own_shapeT hown3
      have O3 := hide hown4
      have B3 := hide hb3
      clear hown3 hgrow3 hb3 hown4
      go_wp2
      go_ret2
      exact ⟨_, by rw [HR.out]; rfl, by rw [HR.out]; exact O3.out, B3.out⟩
  · have C1 := hide (goodQuery_any a l n cap w hn hs hn2 hst false (iff_of_false (by simp) hg))
    have hr' : r = none := by rw [hr]; unfold notRes; rw [if_neg (fun h => hg h.1)]
    subst hr'
    clear hr hn hs hst hg
    go_enter Try.func23, Try.ntmps23
    go_wp2_with fail
    refine C1.out.mono ?_
    rintro e w1 ⟨rfl, hb1⟩
    go_wp2
    go_ret2
    exact retQ_none hb1

set_option maxRecDepth 100000 in
set_option maxHeartbeats 2000000 in
theorem specNotQuery_any (a : Option Addr) (l : List Qr) (n cap : Nat) (w : World) (hn : l.length = n) (hs : SlQ w a l) (hn2 : n ≤ 1048576) (hst : TxQ l) (r : Option (List Qr)) (hr : r = notRes l) :
    Calls Try.prog 28 #[.slice a n cap] w fun e w' => RetQ w r e w' := by
  by_cases hg : GoodQ l
  · have C1 := hide (specGoodQuery_any a l n cap w hn hs hn2 hst true (iff_of_true rfl hg))
    by_cases h20 : n = 20
    · subst h20
      have hr' : r = none := by rw [hr]; unfold notRes; rw [if_neg (fun h => h.2 hn)]
      subst hr'
      clear hr hn hs hst hg
      go_enter Try.func28, Try.ntmps28
      go_wp2_with fail
      refine C1.out.mono ?_
      rintro e w1 ⟨rfl, hb1⟩
      go_wp2
      go_ret2
      exact retQ_none hb1
    · obtain ⟨i1, hi1, hy0, hy1, hy2⟩ := info_parts info_qu
      have hr' : r = some (notQ l) := by rw [hr]; unfold notRes; rw [if_pos ⟨hg, by omega⟩]
      have HR := hide hr'
      have hl1 := hg.1
      obtain ⟨b, off, rfl, _⟩ := hs 0 (by omega)
      have HS := hide hs
      have HN := hide hn
      have h20' : ((n : Int) == 20) = false := by simp; omega
      rw [hn] at hl1
      clear hr hr' hn hs hst hg h20
      go_enter Try.func28, Try.ntmps28
      go_wp2_with fail
      refine C1.out.mono ?_
      rintro e w1 ⟨rfl, hb1⟩
      have B1 := hide hb1
      have S1 := hide (HS.out.below hb1)
      have hz1 := hb1.size
      have E1 := hide (own_emptyQ w1 w.heap.size hb1.size)
      clear hb1
      go_wp2_with (first
        | (at_builtin; refine wpList_append_own _ rfl _ _ 36 rfl w.heap.size 51 i1 (.agg #[.int .i64 0, .string ByteArray.empty, .string ByteArray.empty, .int .i64 0, .int .i64 0]) 5 56 Try.underlying36 hi1 hy0 hy1 hy2 rfl (by decide) (.slice (some ⟨w1.heap.size, 0, none⟩) 0 0) 0 [] rfl E1.out ⟨b, off, none⟩ n cap (flatQ l) rfl (by rw [flatQ_len, HN.out]) (slQ_cells (S1.out.below ((Below.refl _ _).alloc (Nat.le_refl _) _))) (flatQ_one l) (by unfold maxLen; omega) (by omega) (by simp; omega) ?_)
        | go_in)
      intro v2 w2 hown2 hgrow2 _
      have hb2 := B1.out.trans (((Below.refl _ _).alloc hz1 _).grown hgrow2 (by simp; omega) (fun g hg => by cases hg; exact hz1))
      obtain ⟨a2, c2, rfl⟩ := own_shapeT hown2
      try simp only [List.nil_append, Nat.zero_add] at hown2
      have O2 := hide hown2
      have B2 := hide hb2
      have hsz := hb2.size
      clear hown2 hgrow2 hb2
      go_wp2_with (first
        | (at_builtin; refine wpList_append_own _ rfl _ _ 36 rfl w.heap.size 51 i1 (.agg #[.int .i64 0, .string ByteArray.empty, .string ByteArray.empty, .int .i64 0, .int .i64 0]) 5 56 Try.underlying36 hi1 hy0 hy1 hy2 rfl (by decide) _ _ _ rfl (O2.out.alloc _) ⟨w2.heap.size, 0, none⟩ 1 1 [.int .i64 5, .string ByteArray.empty, .string ByteArray.empty, .int .i64 ((n : Int) - 1), .int .i64 0] rfl rfl (cell_five_new _ _ _ _ _ _ _) (by intro u hu; simp at hu; rcases hu with rfl | rfl | rfl | rfl | rfl <;> rfl) (by unfold maxLen; omega) (by omega) (by simp; omega) ?_)
        | go_in)
      intro v3 w3 hown3 hgrow3 _
      have hb3 := B2.out.trans (((Below.refl _ _).alloc hsz _).grown hgrow3 (by simp; omega) (fun g hg => (O2.out.lt g hg).1))
      have hown4 : w3.ownsRow w.heap.size 51 5 v3 (notQ l).length (flatQ (notQ l)) := by
        unfold notQ
        rw [flatQ_append, List.length_append, HN.out]
        simpa [flatQ] using hown3
      obtain ⟨a3, c3, rfl⟩ := own_shapeT hown3
      have O3 := hide hown4
      have B3 := hide hb3
      clear hown3 hgrow3 hb3 hown4
      go_wp2
      go_ret2
      exact ⟨_, by rw [HR.out]; rfl, by rw [HR.out]; exact O3.out, B3.out⟩
  · have C1 := hide (specGoodQuery_any a l n cap w hn hs hn2 hst false (iff_of_false (by simp) hg))
    have hr' : r = none := by rw [hr]; unfold notRes; rw [if_neg (fun h => hg h.1)]
    subst hr'
    clear hr hn hs hst hg
    go_enter Try.func28, Try.ntmps28
    go_wp2_with fail
    refine C1.out.mono ?_
    rintro e w1 ⟨rfl, hb1⟩
    go_wp2
    go_ret2
    exact retQ_none hb1
end Go.Proofs.Ythicdnkngpiccab.L4
