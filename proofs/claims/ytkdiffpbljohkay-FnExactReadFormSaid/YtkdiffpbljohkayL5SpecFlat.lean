/-
  Contract: spec.l5Flat: the parts of a tree behind others.
-/
import Derived.Test.YtkdiffpbljohkayL5Grow
import Derived.Test.YtkdiffpbljohkayL5Tree
import Derived.RegionTactic
import Derived.Deep.RegionHeld3
namespace Go.Proofs.Ytkdiffpbljohkay.L5
open Go.RowKit L1 L4
set_option linter.unusedVariables false

theorem Tr.grown {w w' : World} {S : Nat → Prop} {x : Sh} {p : Option Addr} {r : Option Nat} (h : Tr w S p x) (hg : w.grownBy w' r) (hne : ∀ g, S g → r ≠ some g) : Tr w' S p x :=
  Tr.keep (fun g k t pa pb hs h => ⟨hs, by
    have e : ∀ j, w'.cell? ⟨g, j, none⟩ = w.cell? ⟨g, j, none⟩ := fun j => World.cell?_of_block (w := w) (hg.block g (blk_lt h.k) (fun e => hne g hs e.symm))
    exact ⟨(e 0).trans h.k, (e 1).trans h.t, (e 2).trans h.a, (e 3).trans h.b⟩⟩) x p h
theorem AtF.grown {w w' : World} {g : Nat} {k : Int} {t : ByteArray} {pa pb : Option Addr} {r : Option Nat} (h : AtF w g k t pa pb) (hg : w.grownBy w' r) (hne : r ≠ some g) : AtF w' g k t pa pb := by
  have e : ∀ j, w'.cell? ⟨g, j, none⟩ = w.cell? ⟨g, j, none⟩ := fun j => World.cell?_of_block (w := w) (hg.block g (blk_lt h.k) (fun e => hne e.symm))
  exact ⟨(e 0).trans h.k, (e 1).trans h.t, (e 2).trans h.a, (e 3).trans h.b⟩
/-- What the call does at a tree. -/
def SC (x : Sh) : Prop := ∀ (S : Nat → Prop) (p : Option Addr) (base : Nat) (v : Value) (l : List Pr) (w : World), Tr w S p x → (∀ g, S g → v.ownBlock ≠ some g) → OwP w base v l → base ≤ w.heap.size → l.length + sz x ≤ 100000000 → Calls Try.prog 31 #[.pointer p, v] w fun e w' => RetF w base v (flat x l) e w'
set_option maxRecDepth 100000 in
set_option maxHeartbeats 4000000 in
theorem l5Flat_leaf (x : Sh) (k : Int) (t : ByteArray) (hk : ¬ (k = 5 ∨ k = 6) ∧ ¬ (k = 7 ∨ k = 8)) (hx : ∀ w S p, Tr w S p x → ∃ g pa pb, p = some ⟨g, 0, none⟩ ∧ S g ∧ AtF w g k t pa pb) (hfl : ∀ l, flat x l = l ++ [⟨k, t, 0, 0⟩]) (hsz : sz x = 1) : SC x := by
  intro S p base v l w ht hS ho hb hl
  obtain ⟨i1, hi1, hy0, hy1, hy2⟩ := info_parts info_part
  obtain ⟨a, cap, rfl⟩ := own_shapeT ho
  obtain ⟨g, pa, pb, rfl, hSg, hf⟩ := hx w S p ht
  rw [hfl]
  rw [hsz] at hl
  have c0 := hf.k
  have c1 := hf.t
  have hgl : g < w.heap.size := blk_lt hf.k
  have c0a : (w.alloc (.cells #[.int .i64 0, .string ⟨#[]⟩, .int .i64 0, .int .i64 0] 55)).cell? ⟨g, 0, none⟩ = some (.int .i64 k) := (((Below.refl _ _).alloc (Nat.le_refl _) _).cell (p := ⟨g, 0, none⟩) hgl).trans c0
  have c1a : (w.alloc (.cells #[.int .i64 0, .string ⟨#[]⟩, .int .i64 0, .int .i64 0] 55)).cell? ⟨g, 1, none⟩ = some (.string t) := (((Below.refl _ _).alloc (Nat.le_refl _) _).cell (p := ⟨g, 1, none⟩) hgl).trans c1
  obtain ⟨W, hW⟩ : ∃ W, W = (w.alloc (.cells #[.int .i64 k, .string t, .int .i64 0, .int .i64 0] 55)).drew := ⟨_, rfl⟩
  have bW : Below w.heap.size w W := by rw [hW]; exact ((Below.refl _ _).alloc (Nat.le_refl _) _).drew
  have HX : Hid (PX W w.heap.size ⟨k, t, 0, 0⟩) := hide (by rw [hW]; exact PX.newAt w _ ⟨k, t, 0, 0⟩ rfl)
  have OW := hide (own_belowT ho bW)
  have GW := hide (grown_below0 bW (Value.slice a l.length cap).ownBlock)
  have AW := hide (hf.base bW hgl)
  have HWZ : Hid (W.heap.size = w.heap.size + 1) := hide (by rw [hW]; simp [World.drew])
  have HLT : Hid (∀ g, (Value.slice a l.length cap).ownBlock = some g → g < w.heap.size) := hide (fun g hg => own_at_lt ho hg)
  have hbW : base ≤ W.heap.size := by have := bW.size; omega
  have C5 := hide (fun w => l5Two_any k w false (iff_of_false (by simp) hk.1))
  have C7 := hide (fun w => l5One_any k w false (iff_of_false (by simp) hk.2))
  have x0 := HX.out.at.k
  have x1 := HX.out.at.t
  have x2 := HX.out.at.a
  have x3 := HX.out.at.b
  simp only [Nat.zero_add] at x1 x2 x3
  clear ho hf ht hx hfl hsz hk hS bW
  go_enter Try.func31, Try.ntmps31
  go_wp2
  go_region
  rw [← hW]
  clear hW c0 c1 c0a c1a
  have d0 := AW.out.k
  go_wp2_with fail
  refine (C5.out _).mono ?_
  rintro e w1 ⟨rfl, rfl⟩
  go_wp2_with fail
  refine (C7.out _).mono ?_
  rintro e w1 ⟨rfl, rfl⟩
  go_wp2_with fail
  refine (C5.out _).mono ?_
  rintro e w1 ⟨rfl, rfl⟩
  go_wp2_with (first
    | (at_builtin; refine wpList_append_own_at _ rfl _ _ 24 rfl base 55 i1 (.agg #[.int .i64 0, .string ByteArray.empty, .int .i64 0, .int .i64 0]) 4 40 Try.underlying24 hi1 hy0 hy1 hy2 rfl (by decide) _ _ _ rfl (OW.out.alloc _) ⟨W.heap.size, 0, none⟩ 1 1 [.int .i64 k, .string t, .int .i64 0, .int .i64 0] rfl rfl (cell_four_newP _ _ (by first | rfl | simp) _ _ _ _ _) (four_one _ _ _ _) (by unfold maxLen; omega) (by omega) (by simp; omega) ?_)
    | go_in)
  intro v6 w6 h6 g6 _ hat
  have HR := hide (fin_ret (p := ⟨k, t, 0, 0⟩) GW.out (fun g hg => .inl hg) h6 g6 (hat.imp id (fun h => ⟨_, h, by first | exact Nat.le_refl _ | (simp; done) | (simp; omega)⟩)))
  obtain ⟨a6, c6, rfl⟩ := own_shapeT h6
  clear h6 g6 hat
  go_wp2
  go_ret
  exact HR.out
set_option maxRecDepth 100000 in
set_option maxHeartbeats 8000000 in
theorem l5Flat_two (x A B : Sh) (k : Int) (hk : k = 5 ∨ k = 6) (hx : ∀ w S p, Tr w S p x → ∃ g pa pb, p = some ⟨g, 0, none⟩ ∧ S g ∧ AtF w g k ByteArray.empty pa pb ∧ Tr w S pa A ∧ Tr w S pb B) (hfl : ∀ l, flat x l = flat B (flat A l) ++ [⟨k, ByteArray.empty, ((flat A l).length : Int) - 1, ((flat B (flat A l)).length : Int) - 1⟩]) (hsz : sz x = sz A + sz B + 1) (IA : SC A) (IB : SC B) : SC x := by
  intro S p base v l w ht hS ho hb hl
  obtain ⟨i1, hi1, hy0, hy1, hy2⟩ := info_parts info_part
  obtain ⟨a, cap, rfl⟩ := own_shapeT ho
  obtain ⟨g, pa, pb, rfl, hSg, hf, ta, tb⟩ := hx w S p ht
  rw [hfl]
  rw [hsz] at hl
  have la := flat_len A l
  have lb := flat_len B (flat A l)
  have pA := sz_pos A
  have pB := sz_pos B
  have c0 := hf.k
  have c1 := hf.t
  have hgl : g < w.heap.size := blk_lt hf.k
  have c0a : (w.alloc (.cells #[.int .i64 0, .string ⟨#[]⟩, .int .i64 0, .int .i64 0] 55)).cell? ⟨g, 0, none⟩ = some (.int .i64 k) := (((Below.refl _ _).alloc (Nat.le_refl _) _).cell (p := ⟨g, 0, none⟩) hgl).trans c0
  have c1a : (w.alloc (.cells #[.int .i64 0, .string ⟨#[]⟩, .int .i64 0, .int .i64 0] 55)).cell? ⟨g, 1, none⟩ = some (.string ByteArray.empty) := (((Below.refl _ _).alloc (Nat.le_refl _) _).cell (p := ⟨g, 1, none⟩) hgl).trans c1
  obtain ⟨W, hW⟩ : ∃ W, W = (w.alloc (.cells #[.int .i64 k, .string ByteArray.empty, .int .i64 0, .int .i64 0] 55)).drew := ⟨_, rfl⟩
  have bW : Below w.heap.size w W := by rw [hW]; exact ((Below.refl _ _).alloc (Nat.le_refl _) _).drew
  have HX : Hid (PX W w.heap.size ⟨k, ByteArray.empty, 0, 0⟩) := hide (by rw [hW]; exact PX.newAt w _ ⟨k, ByteArray.empty, 0, 0⟩ rfl)
  have OW := hide (own_belowT ho bW)
  have GW := hide (grown_below0 bW (Value.slice a l.length cap).ownBlock)
  have AW := hide (hf.base bW hgl)
  have HWZ : Hid (W.heap.size = w.heap.size + 1) := hide (by rw [hW]; simp [World.drew])
  have HLT : Hid (∀ g, (Value.slice a l.length cap).ownBlock = some g → g < w.heap.size) := hide (fun g hg => own_at_lt ho hg)
  have hbW : base ≤ W.heap.size := by have := bW.size; omega
  have C5 := hide (fun w => l5Two_any k w true (iff_of_true rfl hk))
  have TA := hide (ta.lt.below bW)
  have TB := hide (tb.lt.below bW)
  have HSg := hide (And.intro hSg hgl)
  have HS := hide hS
  have CA := hide (IA _ pa base _ l W TA.out (fun g hg => hS g hg.1) OW.out hbW (by omega))
  obtain ⟨N, hN⟩ : ∃ N, N = w.heap.size := ⟨_, rfl⟩
  have CB := hide (fun v w t d o b => IB (fun h => S h ∧ h < N) pb base v (flat A l) w t d o b (by omega))
  rw [hN] at CB
  clear hN
  have hA1 : 1 ≤ ((flat A l).length : Int) := by omega
  have hA2 : ((flat A l).length : Int) ≤ 100000000 := by omega
  have hB1 : 1 ≤ ((flat B (flat A l)).length : Int) := by omega
  have hB2 : ((flat B (flat A l)).length : Int) ≤ 100000000 := by omega
  have hB3 : (flat B (flat A l)).length + 1 ≤ 100000000 := by omega
  have d2 := AW.out.a
  clear ho hf ht hx hfl hsz hk hS bW ta tb la lb pA pB IA IB hSg
  go_enter Try.func31, Try.ntmps31
  go_wp2
  go_region
  rw [← hW]
  clear hW c0 c1 c0a c1a
  have d0 := AW.out.k
  go_wp2_with fail
  refine (C5.out _).mono ?_
  rintro e w1 ⟨rfl, rfl⟩
  go_wp2_with fail
  refine CA.out.mono ?_
  rintro e w3 ⟨v3, rfl, o3, g3, k3⟩
  have hx3 := HX.out.grown g3 (fun e => by have h1 := HLT.out _ e; omega)
  have K3 : Hid (∀ g, v3.ownBlock = some g → ((Value.slice a l.length cap).ownBlock = some g ∨ w.heap.size ≤ g) ∧ g ≠ w.heap.size ∧ ∀ h, S h ∧ h < w.heap.size → h ≠ g) := hide (fun g hg => by
    have h3 := HWZ.out
    rcases k3 g hg with h | h
    · have h1 := HLT.out g h
      exact ⟨.inl h, by omega, fun q hq e => HS.out q hq.1 (by rw [e]; exact h)⟩
    · exact ⟨.inr (by omega), by omega, fun q hq e => by omega⟩)
  have G3 := hide (grown_trans GW.out g3 (fun g hg => .inl hg))
  have T3 := hide (TB.out.grown g3 (fun g hg => HS.out g hg.1))
  have A3 := hide (AW.out.grown g3 (HS.out _ HSg.out.1))
  have Z3 := hide g3.size
  obtain ⟨x3, c3, rfl⟩ := own_shapeT o3
  have ca := hx3.at.a
  have fa := hx3.frozen 2
  have hx4 := hx3.setA (((flat A l).length : Int) - 1)
  simp only [Nat.zero_add] at ca
  have gs := grown_set w3 w.heap.size 2 (.int .i64 (((flat A l).length : Int) - 1))
  have X4 := hide hx4
  have G4 := hide (grown_trans G3.out gs (fun g hg => by cases hg; exact .inr (Nat.le_refl _)))
  have O4 := hide (OwP.grown o3 gs (fun g hg e => by cases e; exact (K3.out _ hg).2.1 rfl))
  have T4 := hide (T3.out.grown gs (fun g hg e => by cases e; have := hg.2; omega))
  have a4 := A3.out.grown gs (fun e => by cases e; have := HSg.out.2; omega)
  have Z4 := hide gs.size
  have A4 := hide a4
  have e0 := a4.k
  clear hx3 hx4 g3 k3 o3 gs d0 d2 a4
  go_wp2_with fail
  refine (C5.out _).mono ?_
  rintro e w5 ⟨rfl, hw5⟩
  obtain ⟨w4, hw4⟩ : ∃ w4, w4 = w3.setCell ⟨w.heap.size, 2, none⟩ (.int .i64 (((flat A l).length : Int) - 1)) := ⟨_, rfl⟩
  rw [← hw4] at X4 G4 O4 T4 A4 Z4 hw5
  subst hw5
  clear hw4 e0 ca fa
  have HB4 : Hid (base ≤ w4.heap.size) := hide (by have h1 := Z3.out; have h2 := Z4.out; omega)
  have CB2 := hide (CB.out _ w4 T4.out (fun h hh e => (K3.out _ e).2.2 h hh rfl) O4.out HB4.out)
  have e3 := A4.out.b
  go_wp2_with fail
  refine CB2.out.mono ?_
  rintro e w6 ⟨v6, rfl, o6, g6, k6⟩
  have HZ6 : Hid (w.heap.size < w4.heap.size) := hide (by have h1 := Z3.out; have h2 := Z4.out; have h3 := HWZ.out; omega)
  have hx6 := X4.out.grown g6 (fun e => (K3.out _ e).2.1 rfl)
  have K6 : Hid (∀ g, v6.ownBlock = some g → ((Value.slice a l.length cap).ownBlock = some g ∨ w.heap.size ≤ g) ∧ g ≠ w.heap.size) := hide (fun g hg => by
    have h3 := HZ6.out
    rcases k6 g hg with h | h
    · exact ⟨(K3.out g h).1, (K3.out g h).2.1⟩
    · exact ⟨.inr (by omega), by omega⟩)
  have G6 := hide (grown_trans G4.out g6 (fun g hg => (K3.out g hg).1))
  have hb6 : base ≤ w6.heap.size := by have h1 := HB4.out; have h2 := g6.size; omega
  obtain ⟨x6, c6', rfl⟩ := own_shapeT o6
  have cb := hx6.at.b
  have fb := hx6.frozen 3
  have hx7 := hx6.setB (((flat B (flat A l)).length : Int) - 1)
  have y0 := hx7.at.k
  have y1 := hx7.at.t
  have y2 := hx7.at.a
  have y3 := hx7.at.b
  simp only [Nat.zero_add] at cb y1 y2 y3
  have gs := grown_set w6 w.heap.size 3 (.int .i64 (((flat B (flat A l)).length : Int) - 1))
  have G7 := hide (grown_trans G6.out gs (fun g hg => by cases hg; exact .inr (Nat.le_refl _)))
  have O7 := hide (OwP.grown o6 gs (fun g hg e => by cases e; exact (K6.out _ hg).2 rfl))
  clear hx6 hx7 g6 k6 o6 gs e3
  go_wp2_with (first
    | (at_builtin; refine wpList_append_own_at _ rfl _ _ 24 rfl base 55 i1 (.agg #[.int .i64 0, .string ByteArray.empty, .int .i64 0, .int .i64 0]) 4 40 Try.underlying24 hi1 hy0 hy1 hy2 rfl (by decide) _ _ _ rfl (O7.out.alloc _) ⟨w6.heap.size, 0, none⟩ 1 1 [.int .i64 k, .string ByteArray.empty, .int .i64 (((flat A l).length : Int) - 1), .int .i64 (((flat B (flat A l)).length : Int) - 1)] rfl rfl (cell_four_newP _ _ (by first | rfl | simp) _ _ _ _ _) (four_one _ _ _ _) (by unfold maxLen; omega) (by omega) (by simp; omega) ?_)
    | go_in)
  intro v8 w8 h8 g8 _ hat
  have HR := hide (fin_ret (p := ⟨k, ByteArray.empty, ((flat A l).length : Int) - 1, ((flat B (flat A l)).length : Int) - 1⟩) G7.out (fun g hg => (K6.out g hg).1) h8 g8 (hat.imp id (fun h => ⟨_, h, by first | exact Nat.le_refl _ | (simp; done) | (simp; omega)⟩)))
  obtain ⟨a6, c6, rfl⟩ := own_shapeT h8
  clear h8 g8 hat
  go_wp2
  go_ret
  exact HR.out
set_option maxRecDepth 100000 in
set_option maxHeartbeats 8000000 in
theorem l5Flat_one (x A : Sh) (k : Int) (hk : k = 7 ∨ k = 8) (hx : ∀ w S p, Tr w S p x → ∃ g pa pb, p = some ⟨g, 0, none⟩ ∧ S g ∧ AtF w g k ByteArray.empty pa pb ∧ Tr w S pa A) (hfl : ∀ l, flat x l = flat A l ++ [⟨k, ByteArray.empty, ((flat A l).length : Int) - 1, 0⟩]) (hsz : sz x = sz A + 1) (IA : SC A) : SC x := by
  intro S p base v l w ht hS ho hb hl
  obtain ⟨i1, hi1, hy0, hy1, hy2⟩ := info_parts info_part
  obtain ⟨a, cap, rfl⟩ := own_shapeT ho
  obtain ⟨g, pa, pb, rfl, hSg, hf, ta⟩ := hx w S p ht
  rw [hfl]
  rw [hsz] at hl
  have la := flat_len A l
  have pA := sz_pos A
  have c0 := hf.k
  have c1 := hf.t
  have hgl : g < w.heap.size := blk_lt hf.k
  have c0a : (w.alloc (.cells #[.int .i64 0, .string ⟨#[]⟩, .int .i64 0, .int .i64 0] 55)).cell? ⟨g, 0, none⟩ = some (.int .i64 k) := (((Below.refl _ _).alloc (Nat.le_refl _) _).cell (p := ⟨g, 0, none⟩) hgl).trans c0
  have c1a : (w.alloc (.cells #[.int .i64 0, .string ⟨#[]⟩, .int .i64 0, .int .i64 0] 55)).cell? ⟨g, 1, none⟩ = some (.string ByteArray.empty) := (((Below.refl _ _).alloc (Nat.le_refl _) _).cell (p := ⟨g, 1, none⟩) hgl).trans c1
  obtain ⟨W, hW⟩ : ∃ W, W = (w.alloc (.cells #[.int .i64 k, .string ByteArray.empty, .int .i64 0, .int .i64 0] 55)).drew := ⟨_, rfl⟩
  have bW : Below w.heap.size w W := by rw [hW]; exact ((Below.refl _ _).alloc (Nat.le_refl _) _).drew
  have HX : Hid (PX W w.heap.size ⟨k, ByteArray.empty, 0, 0⟩) := hide (by rw [hW]; exact PX.newAt w _ ⟨k, ByteArray.empty, 0, 0⟩ rfl)
  have OW := hide (own_belowT ho bW)
  have GW := hide (grown_below0 bW (Value.slice a l.length cap).ownBlock)
  have AW := hide (hf.base bW hgl)
  have HWZ : Hid (W.heap.size = w.heap.size + 1) := hide (by rw [hW]; simp [World.drew])
  have HLT : Hid (∀ g, (Value.slice a l.length cap).ownBlock = some g → g < w.heap.size) := hide (fun g hg => own_at_lt ho hg)
  have hbW : base ≤ W.heap.size := by have := bW.size; omega
  have C5 := hide (fun w => l5Two_any k w false (iff_of_false (by simp) (by omega)))
  have C7 := hide (fun w => l5One_any k w true (iff_of_true rfl hk))
  have TA := hide (ta.lt.below bW)
  have HSg := hide (And.intro hSg hgl)
  have HS := hide hS
  have CA := hide (IA _ pa base _ l W TA.out (fun g hg => hS g hg.1) OW.out hbW (by omega))
  have hA1 : 1 ≤ ((flat A l).length : Int) := by omega
  have hA2 : ((flat A l).length : Int) ≤ 100000000 := by omega
  have hB3 : (flat A l).length + 1 ≤ 100000000 := by omega
  have d2 := AW.out.a
  clear ho hf ht hx hfl hsz hk hS bW ta la pA IA hSg
  go_enter Try.func31, Try.ntmps31
  go_wp2
  go_region
  rw [← hW]
  clear hW c0 c1 c0a c1a
  have d0 := AW.out.k
  go_wp2_with fail
  refine (C5.out _).mono ?_
  rintro e w1 ⟨rfl, rfl⟩
  go_wp2_with fail
  refine (C7.out _).mono ?_
  rintro e w1 ⟨rfl, rfl⟩
  go_wp2_with fail
  refine CA.out.mono ?_
  rintro e w3 ⟨v3, rfl, o3, g3, k3⟩
  have hx3 := HX.out.grown g3 (fun e => by have h1 := HLT.out _ e; omega)
  have K3 : Hid (∀ g, v3.ownBlock = some g → ((Value.slice a l.length cap).ownBlock = some g ∨ w.heap.size ≤ g) ∧ g ≠ w.heap.size ∧ ∀ h, S h ∧ h < w.heap.size → h ≠ g) := hide (fun g hg => by
    have h3 := HWZ.out
    rcases k3 g hg with h | h
    · have h1 := HLT.out g h
      exact ⟨.inl h, by omega, fun q hq e => HS.out q hq.1 (by rw [e]; exact h)⟩
    · exact ⟨.inr (by omega), by omega, fun q hq e => by omega⟩)
  have G3 := hide (grown_trans GW.out g3 (fun g hg => .inl hg))
  have A3 := hide (AW.out.grown g3 (HS.out _ HSg.out.1))
  have Z3 := hide g3.size
  obtain ⟨x3, c3, rfl⟩ := own_shapeT o3
  have ca := hx3.at.a
  have fa := hx3.frozen 2
  have hx4 := hx3.setA (((flat A l).length : Int) - 1)
  simp only [Nat.zero_add] at ca
  have gs := grown_set w3 w.heap.size 2 (.int .i64 (((flat A l).length : Int) - 1))
  have y0 := hx4.at.k
  have y1 := hx4.at.t
  have y2 := hx4.at.a
  have y3 := hx4.at.b
  simp only [Nat.zero_add] at y1 y2 y3
  have G4 := hide (grown_trans G3.out gs (fun g hg => by cases hg; exact .inr (Nat.le_refl _)))
  have O4 := hide (OwP.grown o3 gs (fun g hg e => by cases e; exact (K3.out _ hg).2.1 rfl))
  have a4 := A3.out.grown gs (fun e => by cases e; have := HSg.out.2; omega)
  have e0 := a4.k
  have hb3 : base ≤ w3.heap.size := by have h1 := Z3.out; omega
  clear hx3 hx4 g3 k3 o3 gs d0 d2 a4
  go_wp2_with fail
  refine (C5.out _).mono ?_
  rintro e w5 ⟨rfl, rfl⟩
  go_wp2_with (first
    | (at_builtin; refine wpList_append_own_at _ rfl _ _ 24 rfl base 55 i1 (.agg #[.int .i64 0, .string ByteArray.empty, .int .i64 0, .int .i64 0]) 4 40 Try.underlying24 hi1 hy0 hy1 hy2 rfl (by decide) _ _ _ rfl (O4.out.alloc _) ⟨w3.heap.size, 0, none⟩ 1 1 [.int .i64 k, .string ByteArray.empty, .int .i64 (((flat A l).length : Int) - 1), .int .i64 0] rfl rfl (cell_four_newP _ _ (by first | rfl | simp) _ _ _ _ _) (four_one _ _ _ _) (by unfold maxLen; omega) (by omega) (by simp; omega) ?_)
    | go_in)
  intro v6 w6 h6 g6 _ hat
  have HR := hide (fin_ret (p := ⟨k, ByteArray.empty, ((flat A l).length : Int) - 1, 0⟩) G4.out (fun g hg => (K3.out g hg).1) h6 g6 (hat.imp id (fun h => ⟨_, h, by first | exact Nat.le_refl _ | (simp; done) | (simp; omega)⟩)))
  obtain ⟨a6, c6, rfl⟩ := own_shapeT h6
  clear h6 g6 hat
  go_wp2
  go_ret
  exact HR.out
theorem l5Flat_any : ∀ x, SC x
  | .none => l5Flat_leaf _ 1 ByteArray.empty (by omega) (fun w S p h => h) (fun l => rfl) rfl
  | .empty => l5Flat_leaf _ 2 ByteArray.empty (by omega) (fun w S p h => h) (fun l => rfl) rfl
  | .letter c => l5Flat_leaf _ 3 (one c) (by omega) (fun w S p h => h) (fun l => rfl) rfl
  | .any => l5Flat_leaf _ 4 ByteArray.empty (by omega) (fun w S p h => h) (fun l => rfl) rfl
  | .seq a b => l5Flat_two _ a b 5 (by omega) (fun w S p h => h) (fun l => rfl) rfl (l5Flat_any a) (l5Flat_any b)
  | .alt a b => l5Flat_two _ a b 6 (by omega) (fun w S p h => h) (fun l => rfl) rfl (l5Flat_any a) (l5Flat_any b)
  | .many a => l5Flat_one _ a 7 (by omega) (fun w S p h => h) (fun l => rfl) rfl (l5Flat_any a)
  | .inv a => l5Flat_one _ a 8 (by omega) (fun w S p h => h) (fun l => rfl) rfl (l5Flat_any a)
end Go.Proofs.Ytkdiffpbljohkay.L5
