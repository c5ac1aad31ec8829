/-
  Trees of the specification's: pointers in memory. Contract: spec.l5Tree: the tree of a good form's part.
-/
import Derived.Test.YtkdiffpbljohkayL5Word
import Derived.Test.YtkdiffpbljohkayL5Lang
namespace Go.Proofs.Ytkdiffpbljohkay.L5
open Go.RowKit L1 L4
set_option linter.unusedVariables false

/-- A tree's node lies in a block of its own. -/
structure AtF (w : World) (g : Nat) (k : Int) (t : ByteArray) (pa pb : Option Addr) : Prop where
  k : w.cell? ⟨g, 0, none⟩ = some (.int .i64 k)
  t : w.cell? ⟨g, 1, none⟩ = some (.string t)
  a : w.cell? ⟨g, 2, none⟩ = some (.pointer pa)
  b : w.cell? ⟨g, 3, none⟩ = some (.pointer pb)
theorem AtF.base {w w' : World} {g B : Nat} {k : Int} {t : ByteArray} {pa pb : Option Addr} (h : AtF w g k t pa pb) (hb : Below B w w') (hB : g < B) : AtF w' g k t pa pb :=
  ⟨(hb.cell (p := ⟨g, 0, none⟩) hB).trans h.k, (hb.cell (p := ⟨g, 1, none⟩) hB).trans h.t, (hb.cell (p := ⟨g, 2, none⟩) hB).trans h.a, (hb.cell (p := ⟨g, 3, none⟩) hB).trans h.b⟩
/-- The text that a node bears. -/
def nt : Sh → ByteArray
  | .letter c => one c
  | _ => ByteArray.empty
/-- A pointer leads to a tree of that shape, its nodes in blocks of a kind. -/
def Tr (w : World) (S : Nat → Prop) : Option Addr → Sh → Prop
  | p, .seq a b => ∃ g pa pb, p = some ⟨g, 0, none⟩ ∧ S g ∧ AtF w g 5 ByteArray.empty pa pb ∧ Tr w S pa a ∧ Tr w S pb b
  | p, .alt a b => ∃ g pa pb, p = some ⟨g, 0, none⟩ ∧ S g ∧ AtF w g 6 ByteArray.empty pa pb ∧ Tr w S pa a ∧ Tr w S pb b
  | p, .many a => ∃ g pa pb, p = some ⟨g, 0, none⟩ ∧ S g ∧ AtF w g 7 ByteArray.empty pa pb ∧ Tr w S pa a
  | p, .inv a => ∃ g pa pb, p = some ⟨g, 0, none⟩ ∧ S g ∧ AtF w g 8 ByteArray.empty pa pb ∧ Tr w S pa a
  | p, .letter c => ∃ g pa pb, p = some ⟨g, 0, none⟩ ∧ S g ∧ AtF w g 3 (one c) pa pb
  | p, .none => ∃ g pa pb, p = some ⟨g, 0, none⟩ ∧ S g ∧ AtF w g 1 ByteArray.empty pa pb
  | p, .empty => ∃ g pa pb, p = some ⟨g, 0, none⟩ ∧ S g ∧ AtF w g 2 ByteArray.empty pa pb
  | p, .any => ∃ g pa pb, p = some ⟨g, 0, none⟩ ∧ S g ∧ AtF w g 4 ByteArray.empty pa pb
/-- Whatever keeps the nodes keeps the trees. -/
theorem Tr.keep {w w' : World} {S S' : Nat → Prop} (hk : ∀ g k t pa pb, S g → AtF w g k t pa pb → S' g ∧ AtF w' g k t pa pb) : ∀ (x : Sh) (p : Option Addr), Tr w S p x → Tr w' S' p x
  | .seq a b, p, ⟨g, pa, pb, e, hs, h, ha, hb⟩ => ⟨g, pa, pb, e, (hk _ _ _ _ _ hs h).1, (hk _ _ _ _ _ hs h).2, Tr.keep hk a pa ha, Tr.keep hk b pb hb⟩
  | .alt a b, p, ⟨g, pa, pb, e, hs, h, ha, hb⟩ => ⟨g, pa, pb, e, (hk _ _ _ _ _ hs h).1, (hk _ _ _ _ _ hs h).2, Tr.keep hk a pa ha, Tr.keep hk b pb hb⟩
  | .many a, p, ⟨g, pa, pb, e, hs, h, ha⟩ => ⟨g, pa, pb, e, (hk _ _ _ _ _ hs h).1, (hk _ _ _ _ _ hs h).2, Tr.keep hk a pa ha⟩
  | .inv a, p, ⟨g, pa, pb, e, hs, h, ha⟩ => ⟨g, pa, pb, e, (hk _ _ _ _ _ hs h).1, (hk _ _ _ _ _ hs h).2, Tr.keep hk a pa ha⟩
  | .letter c, p, ⟨g, pa, pb, e, hs, h⟩ => ⟨g, pa, pb, e, (hk _ _ _ _ _ hs h).1, (hk _ _ _ _ _ hs h).2⟩
  | .none, p, ⟨g, pa, pb, e, hs, h⟩ => ⟨g, pa, pb, e, (hk _ _ _ _ _ hs h).1, (hk _ _ _ _ _ hs h).2⟩
  | .empty, p, ⟨g, pa, pb, e, hs, h⟩ => ⟨g, pa, pb, e, (hk _ _ _ _ _ hs h).1, (hk _ _ _ _ _ hs h).2⟩
  | .any, p, ⟨g, pa, pb, e, hs, h⟩ => ⟨g, pa, pb, e, (hk _ _ _ _ _ hs h).1, (hk _ _ _ _ _ hs h).2⟩
theorem Tr.below {w w' : World} {S : Nat → Prop} {x : Sh} {p : Option Addr} (h : Tr w S p x) (hb : Below w.heap.size w w') : Tr w' S p x :=
  Tr.keep (fun g k t pa pb hs h => ⟨hs, h.base hb (blk_lt h.k)⟩) x p h
theorem Tr.mono {w : World} {S S' : Nat → Prop} {x : Sh} {p : Option Addr} (h : Tr w S p x) (hs : ∀ g, S g → S' g) : Tr w S' p x :=
  Tr.keep (fun g k t pa pb h1 h => ⟨hs g h1, h⟩) x p h
theorem Tr.lt {w : World} {S : Nat → Prop} {x : Sh} {p : Option Addr} (h : Tr w S p x) : Tr w (fun g => S g ∧ g < w.heap.size) p x :=
  Tr.keep (fun g k t pa pb h1 h => ⟨⟨h1, blk_lt h.k⟩, h⟩) x p h
theorem AtF.set {w : World} {g : Nat} {k : Int} {t : ByteArray} {pa pb : Option Addr} (h : AtF w g k t pa pb) {p : Addr} (hne : g ≠ p.block) (u : Value) : AtF (w.setCell p u) g k t pa pb := by
  have e : ∀ j, (w.setCell p u).cell? ⟨g, j, none⟩ = w.cell? ⟨g, j, none⟩ := fun j => World.cell?_of_block (w := w) (Below.heap_setCell w p u g hne)
  exact ⟨(e 0).trans h.k, (e 1).trans h.t, (e 2).trans h.a, (e 3).trans h.b⟩
theorem Tr.set {w : World} {S : Nat → Prop} {x : Sh} {q : Option Addr} (h : Tr w S q x) {p : Addr} (hne : ∀ g, S g → g ≠ p.block) (u : Value) : Tr (w.setCell p u) S q x :=
  Tr.keep (fun g k t pa pb hs h => ⟨hs, h.set (hne g hs) u⟩) x q h
theorem AtP.set {w : World} {g o : Nat} {x : Pr} (h : AtP w g o x) {p : Addr} (hne : g ≠ p.block) (u : Value) : AtP (w.setCell p u) g o x := by
  have e : ∀ j, (w.setCell p u).cell? ⟨g, j, none⟩ = w.cell? ⟨g, j, none⟩ := fun j => World.cell?_of_block (w := w) (Below.heap_setCell w p u g hne)
  exact ⟨(e _).trans h.k, (e _).trans h.t, (e _).trans h.a, (e _).trans h.b⟩
/-- A tree's first node. -/
theorem Tr.node {w : World} {S : Nat → Prop} : ∀ {x : Sh} {p : Option Addr}, Tr w S p x → ∃ g pa pb, p = some ⟨g, 0, none⟩ ∧ S g ∧ AtF w g (kd x) (nt x) pa pb
  | .seq a b, p, ⟨g, pa, pb, e, hs, h, _, _⟩ => ⟨g, pa, pb, e, hs, h⟩
  | .alt a b, p, ⟨g, pa, pb, e, hs, h, _, _⟩ => ⟨g, pa, pb, e, hs, h⟩
  | .many a, p, ⟨g, pa, pb, e, hs, h, _⟩ => ⟨g, pa, pb, e, hs, h⟩
  | .inv a, p, ⟨g, pa, pb, e, hs, h, _⟩ => ⟨g, pa, pb, e, hs, h⟩
  | .letter c, p, ⟨g, pa, pb, e, hs, h⟩ => ⟨g, pa, pb, e, hs, h⟩
  | .none, p, ⟨g, pa, pb, e, hs, h⟩ => ⟨g, pa, pb, e, hs, h⟩
  | .empty, p, ⟨g, pa, pb, e, hs, h⟩ => ⟨g, pa, pb, e, hs, h⟩
  | .any, p, ⟨g, pa, pb, e, hs, h⟩ => ⟨g, pa, pb, e, hs, h⟩
/-- A tree that a call hands back, in new memory. -/
def RetT (w : World) (x : Sh) (e : Ending) (w' : World) : Prop := ∃ p, e = .returned (.pointer p) ∧ Tr w' (fun g => w.heap.size ≤ g) p x ∧ Below w.heap.size w w'
/-- A tree that a call hands back, somewhere. -/
def RetU (w : World) (x : Sh) (e : Ending) (w' : World) : Prop := ∃ p, e = .returned (.pointer p) ∧ Tr w' (fun _ => True) p x ∧ Below w.heap.size w w'
/-- A node's block, whole. -/
def FB (w : World) (g : Nat) (k : Int) (t : ByteArray) (pa pb : Option Addr) : Prop := w.heap[g]? = some (.cells #[.int .i64 k, .string t, .pointer pa, .pointer pb] 84 (0, 0))
theorem FB.new (w : World) (k : Int) (t : ByteArray) (pa pb : Option Addr) : FB (w.alloc (.cells #[.int .i64 k, .string t, .pointer pa, .pointer pb] 84)) w.heap.size k t pa pb := by
  unfold FB
  show (w.heap.push _)[w.heap.size]? = _
  exact Array.getElem?_push_size
theorem FB.newAt (w : World) (g : Nat) (k : Int) (t : ByteArray) (pa pb : Option Addr) (hg : w.heap.size = g) : FB (w.alloc (.cells #[.int .i64 k, .string t, .pointer pa, .pointer pb] 84)) g k t pa pb := by
  subst hg
  exact FB.new w k t pa pb
theorem FB.lt {w : World} {g : Nat} {k : Int} {t : ByteArray} {pa pb : Option Addr} (h : FB w g k t pa pb) : g < w.heap.size := (Array.getElem?_eq_some_iff.1 h).1
theorem FB.at {w : World} {g : Nat} {k : Int} {t : ByteArray} {pa pb : Option Addr} (h : FB w g k t pa pb) : AtF w g k t pa pb :=
  ⟨Lib.cell_of_heap h 0, Lib.cell_of_heap h 1, Lib.cell_of_heap h 2, Lib.cell_of_heap h 3⟩
theorem FB.frozen {w : World} {g : Nat} {k : Int} {t : ByteArray} {pa pb : Option Addr} (h : FB w g k t pa pb) (j : Nat) : w.frozen? ⟨g, j, none⟩ = false := Lib.frozen_of_heap h j
theorem FB.below {w w' : World} {g : Nat} {k : Int} {t : ByteArray} {pa pb : Option Addr} (h : FB w g k t pa pb) (hb : Below w.heap.size w w') : FB w' g k t pa pb := (hb.block g h.lt).trans h
theorem FB.setB {w : World} {g : Nat} {k : Int} {t : ByteArray} {pa pb : Option Addr} (h : FB w g k t pa pb) (q : Option Addr) : FB (w.setCell ⟨g, 3, none⟩ (.pointer q)) g k t pa q := by
  have h1 := heap_setCell_same w g 3 _ _ (.pointer q) h
  unfold FB
  rw [h1]
  rfl
theorem FB.setA {w : World} {g : Nat} {k : Int} {t : ByteArray} {pa pb : Option Addr} (h : FB w g k t pa pb) (q : Option Addr) : FB (w.setCell ⟨g, 2, none⟩ (.pointer q)) g k t q pb := by
  have h1 := heap_setCell_same w g 2 _ _ (.pointer q) h
  unfold FB
  rw [h1]
  rfl
theorem FB.setK {w : World} {g : Nat} {k : Int} {t : ByteArray} {pa pb : Option Addr} (h : FB w g k t pa pb) (q : Int) : FB (w.setCell ⟨g, 0, none⟩ (.int .i64 q)) g q t pa pb := by
  have h1 := heap_setCell_same w g 0 _ _ (.int .i64 q) h
  unfold FB
  rw [h1]
  rfl
/-- The tree of a part, by its kind. -/
theorem l5Tree_leaf (k : Int) (hk : k = 1 ∨ k = 2 ∨ k = 3 ∨ k = 4) (a : Option Addr) (l : List Pr) (n cap i : Nat) (w : World) (hn : l.length = n) (hi : i < n) (hs : SlP w a l) (hp : (l.getD i eP).k = k) (x : Sh)
    (hx : ∀ (w' : World) (g : Nat), AtF w' g k (l.getD i eP).t none none → w.heap.size ≤ g → Tr w' (fun g => w.heap.size ≤ g) (some ⟨g, 0, none⟩) x) :
    Calls Try.prog 33 #[.slice a n cap, .int .i64 (i : Int)] w fun e w' => RetT w x e w' := by
  obtain ⟨b, off, rfl, hA⟩ := hs i (by omega)
  have C5 := hide (fun w => l5Two_any k w false (iff_of_false (by simp) (by omega)))
  have C7 := hide (fun w => l5One_any k w false (iff_of_false (by simp) (by omega)))
  obtain ⟨⟨pk, pt, pa, pb⟩, hpe⟩ : ∃ p, p = l.getD i eP := ⟨_, rfl⟩
  rw [← hpe] at hA hp hx
  simp only at hp hx
  subst hp
  have hc0 := hA.k
  have hc1 := hA.t
  have hc2 := hA.a
  have hc3 := hA.b
  simp only at hc0 hc1 hc2 hc3
  have hiI : (i : Int) < (n : Int) := by omega
  have HX := hide hx
  clear hA hpe hx hk
  go_enter Try.func33, Try.ntmps33
  go_wp2_with fail
  refine (C5.out _).mono ?_
  rintro e w1 ⟨rfl, rfl⟩
  go_wp2_with fail
  refine (C5.out _).mono ?_
  rintro e w1 ⟨rfl, rfl⟩
  go_wp2_with fail
  refine (C7.out _).mono ?_
  rintro e w1 ⟨rfl, rfl⟩
  go_wp2
  go_ret
  refine ⟨_, rfl, HX.out _ _ ?_ (by simp), ((Below.refl _ _).alloc (Nat.le_refl _) _).alloc (by simp) _⟩
  exact (FB.newAt _ _ _ _ _ _ (by simp)).at
set_option maxRecDepth 100000 in
set_option maxHeartbeats 4000000 in
theorem l5Tree_two (a : Option Addr) (l : List Pr) (n cap i qa qb : Nat) (w : World) (hn : l.length = n) (hi : i < n) (hs : SlP w a l) (HK : (l.getD i eP).k = 5 ∨ (l.getD i eP).k = 6) (HT : (l.getD i eP).t = ByteArray.empty ∧ (l.getD i eP).a = (qa : Int) ∧ (l.getD i eP).b = (qb : Int)) (xa xb X : Sh)
    (HX : ∀ (w' : World) (S : Nat → Prop) (g : Nat) (pa pb : Option Addr), S g → AtF w' g (l.getD i eP).k ByteArray.empty pa pb → Tr w' S pa xa → Tr w' S pb xb → Tr w' S (some ⟨g, 0, none⟩) X)
    (ca : ∀ w, SlP w a l → Calls Try.prog 33 #[.slice a n cap, .int .i64 (qa : Int)] w fun e w' => RetT w xa e w')
    (cb : ∀ w, SlP w a l → Calls Try.prog 33 #[.slice a n cap, .int .i64 (qb : Int)] w fun e w' => RetT w xb e w') :
    Calls Try.prog 33 #[.slice a n cap, .int .i64 (i : Int)] w fun e w' => RetT w X e w' := by
  obtain ⟨b, off, rfl, hA⟩ := hs i (by omega)
  have HAB : Hid (b < w.heap.size) := hide (blk_lt hA.k)
  obtain ⟨⟨pk, pt, pa, pb⟩, hpe⟩ : ∃ p, p = l.getD i eP := ⟨_, rfl⟩
  rw [← hpe] at hA HK HT HX
  simp only at HK HT HX
  replace HX := hide HX
  have hc0 := hA.k
  have hc1 := hA.t
  have hc2 := hA.a
  have hc3 := hA.b
  simp only at hc0 hc1 hc2 hc3
  have hiI : (i : Int) < (n : Int) := by omega
  have HS := hide hs
  clear hA hs
  obtain ⟨rfl, rfl, rfl⟩ := HT
  have C5 := hide (fun w => l5Two_any pk w true (iff_of_true rfl HK))
  have CA := hide ca
  have CB := hide cb
  have HKK := hide HK
  clear hpe ca cb HK
  obtain ⟨pt, hpt⟩ : ∃ t, t = ByteArray.empty := ⟨_, rfl⟩
  rw [← hpt] at hc1
  have HPT := hide hpt
  obtain ⟨pa, hpa⟩ : ∃ z : Int, z = (qa : Int) := ⟨_, rfl⟩
  obtain ⟨pb, hpb⟩ : ∃ z : Int, z = (qb : Int) := ⟨_, rfl⟩
  simp only [← hpa] at CA hc2
  simp only [← hpb] at CB hc3
  clear hpt hpa hpb
  have HB2 : Hid (Below w.heap.size w ((w.alloc (.cells #[.int .i64 pk, .string pt, .int .i64 pa, .int .i64 pb] 55)).alloc (.cells #[.int .i64 pk, .string pt, .pointer none, .pointer none] 84))) := hide (((Below.refl _ _).alloc (Nat.le_refl _) _).alloc (by simp) _)
  have HF2 : Hid (FB ((w.alloc (.cells #[.int .i64 pk, .string pt, .int .i64 pa, .int .i64 pb] 55)).alloc (.cells #[.int .i64 pk, .string pt, .pointer none, .pointer none] 84)) (w.heap.size + 1) pk pt none none) := hide (FB.newAt _ _ _ _ _ _ (by simp))
  have HP2 : Hid (AtP ((w.alloc (.cells #[.int .i64 pk, .string pt, .int .i64 pa, .int .i64 pb] 55)).alloc (.cells #[.int .i64 pk, .string pt, .pointer none, .pointer none] 84)) w.heap.size 0 ⟨pk, pt, pa, pb⟩) := by
    refine hide ⟨?_, ?_, ?_, ?_⟩ <;> simp
  have HL2 : Hid (w.heap.size + 1 < ((w.alloc (.cells #[.int .i64 pk, .string pt, .int .i64 pa, .int .i64 pb] 55)).alloc (.cells #[.int .i64 pk, .string pt, .pointer none, .pointer none] 84)).heap.size) := hide HF2.out.lt
  go_enter Try.func33, Try.ntmps33
  go_wp2_with fail
  refine (C5.out _).mono ?_
  rintro e w1 ⟨rfl, rfl⟩
  go_wp2_with fail
  refine (CB.out _ (HS.out.below HB2.out)).mono ?_
  rintro e w3 ⟨rb, rfl, t3, b3⟩
  have F3 := hide (HF2.out.below b3)
  have P3 := hide (HP2.out.base b3 (by have := HL2.out; omega))
  have T3 : Hid (Tr w3 (fun g => w.heap.size + 1 < g) rb xb) := hide (t3.mono (fun g hg => by have := HL2.out; omega))
  have B3 := hide (HB2.out.trans (b3.mono HB2.out.size))
  have d0 := P3.out.k
  have f3c := F3.out.at.b
  have f3f := F3.out.frozen 3
  have P4 := hide (P3.out.set (p := ⟨w.heap.size + 1, 3, none⟩) (by simp only; omega) (.pointer rb))
  have F4 := hide (F3.out.setB rb)
  have T4 := hide (T3.out.set (p := ⟨w.heap.size + 1, 3, none⟩) (fun g hg => by simp only; omega) (.pointer rb))
  have B4 := hide (B3.out.setCell (p := ⟨w.heap.size + 1, 3, none⟩) (by simp) (.pointer rb))
  clear t3 b3
  go_wp2_with fail
  refine (C5.out _).mono ?_
  rintro e w5 ⟨rfl, hw5⟩
  obtain ⟨w4, hw4⟩ : ∃ w4, w4 = w3.setCell ⟨w.heap.size + 1, 3, none⟩ (.pointer rb) := ⟨_, rfl⟩
  rw [← hw4] at P4 F4 T4 B4 hw5
  subst hw5
  clear hw4 d0 f3c f3f F3 T3 P3
  have e2 := P4.out.a
  simp only [Nat.zero_add] at e2
  go_wp2_with fail
  refine (CA.out _ (HS.out.below B4.out)).mono ?_
  rintro e w5 ⟨ra, rfl, t5, b5⟩
  have F5 := hide (F4.out.below b5)
  have T5 := hide (T4.out.below b5)
  have U5 : Hid (Tr w5 (fun g => w.heap.size + 1 < g) ra xa) := hide (t5.mono (fun g hg => by have := F4.out.lt; omega))
  have B5 := hide (B4.out.trans (b5.mono B4.out.size))
  have f5c := F5.out.at.a
  have f5f := F5.out.frozen 2
  have F6 := hide (F5.out.setA ra)
  have T6 := hide (T5.out.set (p := ⟨w.heap.size + 1, 2, none⟩) (fun g hg => by simp only; omega) (.pointer ra))
  have U6 := hide (U5.out.set (p := ⟨w.heap.size + 1, 2, none⟩) (fun g hg => by simp only; omega) (.pointer ra))
  have B6 := hide (B5.out.setCell (p := ⟨w.heap.size + 1, 2, none⟩) (by simp) (.pointer ra))
  clear t5 b5 e2
  go_wp2
  go_ret
  refine ⟨_, rfl, ?_, B6.out⟩
  have hf := F6.out.at
  rw [HPT.out] at hf
  have ha := U6.out.mono (S' := fun g => w.heap.size ≤ g) (fun g hg => by omega)
  have hb := T6.out.mono (S' := fun g => w.heap.size ≤ g) (fun g hg => by omega)
  exact HX.out _ (fun g => w.heap.size ≤ g) _ _ _ (by simp) hf ha hb
set_option maxRecDepth 100000 in
set_option maxHeartbeats 4000000 in
theorem l5Tree_one (a : Option Addr) (l : List Pr) (n cap i qa : Nat) (w : World) (hn : l.length = n) (hi : i < n) (hs : SlP w a l) (HK : (l.getD i eP).k = 7 ∨ (l.getD i eP).k = 8) (HT : (l.getD i eP).t = ByteArray.empty ∧ (l.getD i eP).a = (qa : Int)) (xa X : Sh)
    (HX : ∀ (w' : World) (S : Nat → Prop) (g : Nat) (pa pb : Option Addr), S g → AtF w' g (l.getD i eP).k ByteArray.empty pa pb → Tr w' S pa xa → Tr w' S (some ⟨g, 0, none⟩) X)
    (ca : ∀ w, SlP w a l → Calls Try.prog 33 #[.slice a n cap, .int .i64 (qa : Int)] w fun e w' => RetT w xa e w') :
    Calls Try.prog 33 #[.slice a n cap, .int .i64 (i : Int)] w fun e w' => RetT w X e w' := by
  obtain ⟨b, off, rfl, hA⟩ := hs i (by omega)
  have HAB : Hid (b < w.heap.size) := hide (blk_lt hA.k)
  obtain ⟨⟨pk, pt, pa, pb⟩, hpe⟩ : ∃ p, p = l.getD i eP := ⟨_, rfl⟩
  rw [← hpe] at hA HK HT HX
  simp only at HK HT HX
  replace HX := hide HX
  have hc0 := hA.k
  have hc1 := hA.t
  have hc2 := hA.a
  have hc3 := hA.b
  simp only at hc0 hc1 hc2 hc3
  have hiI : (i : Int) < (n : Int) := by omega
  have HS := hide hs
  clear hA hs
  obtain ⟨rfl, rfl⟩ := HT
  have C5 := hide (fun w => l5Two_any pk w false (iff_of_false (by simp) (by omega)))
  have C7 := hide (fun w => l5One_any pk w true (iff_of_true rfl HK))
  have CA := hide ca
  have HKK := hide HK
  clear hpe ca HK
  obtain ⟨pt, hpt⟩ : ∃ t, t = ByteArray.empty := ⟨_, rfl⟩
  rw [← hpt] at hc1
  have HPT := hide hpt
  obtain ⟨pa, hpa⟩ : ∃ z : Int, z = (qa : Int) := ⟨_, rfl⟩
  simp only [← hpa] at CA hc2
  clear hpt hpa
  have HB2 : Hid (Below w.heap.size w ((w.alloc (.cells #[.int .i64 pk, .string pt, .int .i64 pa, .int .i64 pb] 55)).alloc (.cells #[.int .i64 pk, .string pt, .pointer none, .pointer none] 84))) := hide (((Below.refl _ _).alloc (Nat.le_refl _) _).alloc (by simp) _)
  have HF2 : Hid (FB ((w.alloc (.cells #[.int .i64 pk, .string pt, .int .i64 pa, .int .i64 pb] 55)).alloc (.cells #[.int .i64 pk, .string pt, .pointer none, .pointer none] 84)) (w.heap.size + 1) pk pt none none) := hide (FB.newAt _ _ _ _ _ _ (by simp))
  go_enter Try.func33, Try.ntmps33
  go_wp2_with fail
  refine (C5.out _).mono ?_
  rintro e w1 ⟨rfl, rfl⟩
  go_wp2_with fail
  refine (C5.out _).mono ?_
  rintro e w1 ⟨rfl, rfl⟩
  go_wp2_with fail
  refine (C7.out _).mono ?_
  rintro e w1 ⟨rfl, rfl⟩
  go_wp2_with fail
  refine (CA.out _ (HS.out.below HB2.out)).mono ?_
  rintro e w5 ⟨ra, rfl, t5, b5⟩
  have F5 := hide (HF2.out.below b5)
  have U5 : Hid (Tr w5 (fun g => w.heap.size + 1 < g) ra xa) := hide (t5.mono (fun g hg => by have := HF2.out.lt; omega))
  have B5 := hide (HB2.out.trans (b5.mono HB2.out.size))
  have f5c := F5.out.at.a
  have f5f := F5.out.frozen 2
  have F6 := hide (F5.out.setA ra)
  have U6 := hide (U5.out.set (p := ⟨w.heap.size + 1, 2, none⟩) (fun g hg => by simp only; omega) (.pointer ra))
  have B6 := hide (B5.out.setCell (p := ⟨w.heap.size + 1, 2, none⟩) (by simp) (.pointer ra))
  clear t5 b5
  go_wp2
  go_ret
  refine ⟨_, rfl, ?_, B6.out⟩
  have hf := F6.out.at
  rw [HPT.out] at hf
  have ha := U6.out.mono (S' := fun g => w.heap.size ≤ g) (fun g hg => by omega)
  exact HX.out _ (fun g => w.heap.size ≤ g) _ _ _ (by simp) hf ha
/-- The tree of a part of a good form. -/
theorem l5Tree_any (a : Option Addr) (l : List Pr) (n cap : Nat) (hn : l.length = n) (hg : ∀ j, j < l.length → okP j (l.getD j eP)) : ∀ (m i : Nat), i < m → i < n → ∀ w, SlP w a l →
    Calls Try.prog 33 #[.slice a n cap, .int .i64 (i : Int)] w fun e w' => RetT w (T l i) e w'
  | 0, i, hm, _, w, _ => by omega
  | m + 1, i, hm, hi, w, hs => by
    have ok := hg i (by omega)
    have ih : ∀ q : Nat, (q : Int) < (i : Int) → ∀ w, SlP w a l → Calls Try.prog 33 #[.slice a n cap, .int .i64 (q : Int)] w fun e w' => RetT w (T l q) e w' := fun q hq => l5Tree_any a l n cap hn hg m q (by omega) (by omega)
    rw [T_node l i (by omega) ok]
    rcases ok with o | o | o | o
    · obtain ⟨o1, ot, _⟩ := o
      rcases o1 with e | e | e
      · rw [shp_1 e]
        exact l5Tree_leaf 1 (by omega) a l n cap i w hn hi hs e _ (fun w' g h hg => ⟨g, _, _, rfl, hg, by rw [ot] at h; exact h⟩)
      · rw [shp_2 e]
        exact l5Tree_leaf 2 (by omega) a l n cap i w hn hi hs e _ (fun w' g h hg => ⟨g, _, _, rfl, hg, by rw [ot] at h; exact h⟩)
      · rw [shp_4 e]
        exact l5Tree_leaf 4 (by omega) a l n cap i w hn hi hs e _ (fun w' g h hg => ⟨g, _, _, rfl, hg, by rw [ot] at h; exact h⟩)
    · obtain ⟨e, ot, _⟩ := o
      rw [shp_3 e]
      exact l5Tree_leaf 3 (by omega) a l n cap i w hn hi hs e _ (fun w' g h hg => ⟨g, _, _, rfl, hg, by rw [one_ltr ot.1]; exact h⟩)
    · obtain ⟨o1, ot, oa, ob⟩ := o
      obtain ⟨qa, ea⟩ : ∃ q : Nat, (l.getD i eP).a = (q : Int) := ⟨(l.getD i eP).a.toNat, by omega⟩
      obtain ⟨qb, eb⟩ : ∃ q : Nat, (l.getD i eP).b = (q : Int) := ⟨(l.getD i eP).b.toNat, by omega⟩
      have hm : ∀ q : Nat, (made l).getD (q : Int).toNat .none = T l q := fun q => rfl
      refine l5Tree_two a l n cap i qa qb w hn hi hs o1 ⟨ot, ea, eb⟩ (T l qa) (T l qb) _ ?_ (ih qa (by omega)) (ih qb (by omega))
      intro w' S g pa pb hS hf ha hb
      rcases o1 with e | e
      · rw [shp_5 e, ea, eb, hm, hm]
        rw [e] at hf
        exact ⟨_, _, _, rfl, hS, hf, ha, hb⟩
      · rw [shp_6 e, ea, eb, hm, hm]
        rw [e] at hf
        exact ⟨_, _, _, rfl, hS, hf, ha, hb⟩
    · obtain ⟨o1, ot, oa, ob⟩ := o
      obtain ⟨qa, ea⟩ : ∃ q : Nat, (l.getD i eP).a = (q : Int) := ⟨(l.getD i eP).a.toNat, by omega⟩
      have hm : ∀ q : Nat, (made l).getD (q : Int).toNat .none = T l q := fun q => rfl
      refine l5Tree_one a l n cap i qa w hn hi hs o1 ⟨ot, ea⟩ (T l qa) _ ?_ (ih qa (by omega))
      intro w' S g pa pb hS hf ha
      rcases o1 with e | e
      · rw [shp_7 e, ea, hm]
        rw [e] at hf
        exact ⟨_, _, _, rfl, hS, hf, ha⟩
      · rw [shp_8 e, ea, hm]
        rw [e] at hf
        exact ⟨_, _, _, rfl, hS, hf, ha⟩
theorem l5Tree_whole (a : Option Addr) (l : List Pr) (n cap : Nat) (w : World) (hn : l.length = n) (hg : GoodF l) (hs : SlP w a l) :
    Calls Try.prog 33 #[.slice a n cap, .int .i64 ((n : Int) - 1)] w fun e w' => RetT w (whole l) e w' := by
  have h1 := hg.1
  have := l5Tree_any a l n cap hn hg.2.1 n (n - 1) (by omega) (by omega) w hs
  rw [show ((n - 1 : Nat) : Int) = (n : Int) - 1 by omega] at this
  unfold whole
  rw [hn]
  exact this
end Go.Proofs.Ytkdiffpbljohkay.L5
