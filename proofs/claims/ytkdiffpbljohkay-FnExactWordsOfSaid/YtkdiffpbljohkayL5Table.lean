/-
  Tables of thirteen rows of bits in memory. Contracts: impl.placeSet.has, impl.endTable.then, or, many, not.
-/
import Derived.Test.YtkdiffpbljohkayL5Pt
import Derived.Test.YtkdiffpbljohkayL5Ends
import Derived.RegionTactic
import Derived.BigRegion
import Derived.Deep.QuietTactic
import Derived.BigQuiet
namespace Go.Proofs.Ytkdiffpbljohkay.L5
open Go.RowKit L1 L4
set_option linter.unusedVariables false

theorem wrap_u16 (n : Nat) (h : n < 65536) : IntKind.u16.wrap (n : Int) = (n : Int) := by
  simp [IntKind.wrap, IntKind.bits, IntKind.signed]
  omega
theorem bits_or (p q : Nat) (hp : p < 65536) (hq : q < 65536) : bits .or .u16 (p : Int) (q : Int) = ((p ||| q : Nat) : Int) := by
  have h : p ||| q < 65536 := Nat.or_lt_two_pow (n := 16) hp hq
  have e : bits .or .u16 (p : Int) (q : Int) = IntKind.u16.wrap ((BitVec.ofInt 16 (p : Int) ||| BitVec.ofInt 16 (q : Int)).toNat : Nat) := rfl
  rw [e, BitVec.ofInt_natCast, BitVec.ofInt_natCast, BitVec.toNat_or, BitVec.toNat_ofNat, BitVec.toNat_ofNat, Nat.mod_eq_of_lt hp, Nat.mod_eq_of_lt hq]
  exact wrap_u16 _ h
theorem bits_and1 (m : Nat) (hm : m < 65536) : bits .and .u16 (m : Int) 1 = ((m % 2 : Nat) : Int) := by
  have e : bits .and .u16 (m : Int) 1 = IntKind.u16.wrap ((BitVec.ofInt 16 (m : Int) &&& BitVec.ofInt 16 ((1 : Nat) : Int)).toNat : Nat) := rfl
  rw [e, BitVec.ofInt_natCast, BitVec.ofInt_natCast, BitVec.toNat_and, BitVec.toNat_ofNat, BitVec.toNat_ofNat, Nat.mod_eq_of_lt hm]
  rw [show (1 : Nat) % 2 ^ 16 = 1 from rfl, Nat.and_one_is_mod]
  exact wrap_u16 _ (by omega)
theorem has_bit (q j : Nat) (hq : q < 65536) : (bits .and .u16 ((q : Int) / 2 ^ j) 1 == 1) = q.testBit j := by
  have e : (q : Int) / 2 ^ j = ((q / 2 ^ j : Nat) : Int) := by simp
  have hl : q / 2 ^ j < 65536 := Nat.lt_of_le_of_lt (Nat.div_le_self _ _) hq
  rw [e, bits_and1 _ hl, Nat.testBit_eq_decide_div_mod_eq]
  have : q / 2 ^ j % 2 = 0 ∨ q / 2 ^ j % 2 = 1 := by omega
  rcases this with h | h <;> rw [h] <;> rfl
set_option maxRecDepth 100000 in
theorem has_any (q j : Nat) (hq : q < 65536) (hj : j ≤ 12) (w : World) (bb : Bool) (hb : bb = q.testBit j) : Calls Try.prog 69 #[.int .u16 (q : Int), .int .i64 (j : Int)] w fun e w' => e = .returned (.bool bb) ∧ w = w' := by
  have h := hide ((has_bit q j hq).trans hb.symm)
  have hj2 : (j : Int) ≤ 16 := by omega
  clear hb
  go_enter Try.func69, Try.ntmps69
  go_wp2
  go_ret
  exact ⟨by rw [← h.out]; rfl, rfl⟩
/-- The cells of a table. -/
def lE (E : Nat → Nat) : List Value := (List.range 13).map fun i => .int .u16 ((E i : Nat) : Int)
/-- A table as a value. -/
abbrev tv (E : Nat → Nat) : Value := .agg #[.int .u16 ((E 0 : Nat) : Int), .int .u16 ((E 1 : Nat) : Int), .int .u16 ((E 2 : Nat) : Int), .int .u16 ((E 3 : Nat) : Int), .int .u16 ((E 4 : Nat) : Int), .int .u16 ((E 5 : Nat) : Int), .int .u16 ((E 6 : Nat) : Int), .int .u16 ((E 7 : Nat) : Int), .int .u16 ((E 8 : Nat) : Int), .int .u16 ((E 9 : Nat) : Int), .int .u16 ((E 10 : Nat) : Int), .int .u16 ((E 11 : Nat) : Int), .int .u16 ((E 12 : Nat) : Int)]
/-- A table lies in a block. -/
abbrev rowE (w : World) (base g : Nat) (E : Nat → Nat) : Prop := w.ownsRow base 112 1 (.slice (some ⟨g, 0, none⟩) 13 13) 13 (lE E)
theorem lE_get (E : Nat → Nat) (i : Nat) (h : i < 13) : (lE E)[i]? = some (.int .u16 ((E i : Nat) : Int)) := by
  simp [lE, h]
theorem lE_upd (E : Nat → Nat) (i v : Nat) : (lE E).set i (.int .u16 (v : Int)) = lE (upd E i v) := by
  apply List.ext_getElem?
  intro j
  by_cases hj : j < 13
  · rw [lE_get _ j hj]
    by_cases e : i = j
    · subst e
      rw [List.getElem?_set_self (by simp [lE, hj]), upd_self]
    · rw [List.getElem?_set_ne e, lE_get _ j hj, upd_ne _ _ _ _ (Ne.symm e)]
  · rw [List.getElem?_eq_none (by simp [lE]; omega), List.getElem?_eq_none (by simp [lE]; omega)]
theorem rowE.new (w : World) (g base : Nat) (hg : w.heap.size = g) (hb : base ≤ g) (E : Nat → Nat) : rowE (w.alloc (.cells #[.int .u16 ((E 0 : Nat) : Int), .int .u16 ((E 1 : Nat) : Int), .int .u16 ((E 2 : Nat) : Int), .int .u16 ((E 3 : Nat) : Int), .int .u16 ((E 4 : Nat) : Int), .int .u16 ((E 5 : Nat) : Int), .int .u16 ((E 6 : Nat) : Int), .int .u16 ((E 7 : Nat) : Int), .int .u16 ((E 8 : Nat) : Int), .int .u16 ((E 9 : Nat) : Int), .int .u16 ((E 10 : Nat) : Int), .int .u16 ((E 11 : Nat) : Int), .int .u16 ((E 12 : Nat) : Int)] 112)) base g E := by
  subst hg
  exact ⟨rfl, .inr ⟨w.heap.size, 13, _, rfl, hb, by show (w.heap.push _)[w.heap.size]? = _; exact Array.getElem?_push_size, Nat.le_refl _, by unfold maxLen; omega, rfl, rfl⟩⟩
theorem rowE.zero (w : World) (g base : Nat) (hg : w.heap.size = g) (hb : base ≤ g) : rowE (w.alloc (.cells #[.int .u16 0, .int .u16 0, .int .u16 0, .int .u16 0, .int .u16 0, .int .u16 0, .int .u16 0, .int .u16 0, .int .u16 0, .int .u16 0, .int .u16 0, .int .u16 0, .int .u16 0] 112)) base g (fun _ => 0) := rowE.new w g base hg hb (fun _ => 0)
theorem rowE.cell {w : World} {base g : Nat} {E : Nat → Nat} (h : rowE w base g E) (i : Nat) (hi : i < 13) : w.cell? ⟨g, i, none⟩ = some (.int .u16 ((E i : Nat) : Int)) := (h.cellAt i (by omega)).trans (lE_get E i hi)
theorem rowE.set {w : World} {base g : Nat} {E : Nat → Nat} (h : rowE w base g E) (i v : Nat) : rowE (w.setCell ⟨g, i, none⟩ (.int .u16 (v : Int))) base g (upd E i v) := by
  have := (h.stored i (.int .u16 (v : Int))).1
  rw [lE_upd] at this
  exact this
theorem rowE.keep {w : World} {base g g' : Nat} {E : Nat → Nat} (h : rowE w base g E) (i : Nat) (u : Value) (hne : g ≠ g') : rowE (w.setCell ⟨g', i, none⟩ u) base g E := by
  refine ⟨h.1, ?_⟩
  rcases h.2 with ⟨h0, _⟩ | ⟨q, cap, cur, hv, hb, hh, rest⟩
  · cases h0
  · cases hv
    exact .inr ⟨g, 13, cur, rfl, hb, by rw [Below.heap_setCell w ⟨g', i, none⟩ u g hne]; exact hh, rest⟩
theorem rowE.drew {w : World} {base g : Nat} {E : Nat → Nat} (h : rowE w base g E) : rowE w.drew base g E := h
theorem rowE.lt {w : World} {base g : Nat} {E : Nat → Nat} (h : rowE w base g E) : g < w.heap.size := (World.ownsRow.lt h g rfl).2
theorem or_lt {p q : Nat} (hp : p < 8192) (hq : q < 8192) : p ||| q < 8192 := Nat.or_lt_two_pow (n := 13) hp hq
theorem thR_lt (E F : Nat → Nat) (hF : ∀ i, F i < 8192) (i : Nat) : ∀ m, thR E F i m < 8192
  | 0 => by simp [thR]
  | m + 1 => by unfold thR; split; exact or_lt (thR_lt E F hF i m) (hF m); exact thR_lt E F hF i m
theorem intV {a b : Int} (h : a = b) : Value.int .u16 a = .int .u16 b := by rw [h]
theorem orE_lt (E F : Nat → Nat) (hE : ∀ i, E i < 8192) (hF : ∀ i, F i < 8192) (k i : Nat) : orE E F k i < 8192 := by
  rw [orE_get]; split; exact or_lt (hE i) (hF i); exact hE i
theorem upd_same (E : Nat → Nat) (i v : Nat) (h : E i = v) : upd E i v = E := by
  funext k; unfold upd; split
  · rename_i e; rw [e, h]
  · rfl
/-- Three tables in memory, a row of blocks from g on, and nothing older turned. -/
structure S3 (w wr : World) (A B C : Nat → Nat) : Prop where
  a : rowE wr w.heap.size w.heap.size A
  b : rowE wr w.heap.size (w.heap.size + 1) B
  c : rowE wr w.heap.size (w.heap.size + 2) C
  bel : Below w.heap.size w wr
set_option maxRecDepth 100000 in
set_option maxHeartbeats 8000000 in
theorem or_any (E F : Nat → Nat) (hE : ∀ i, E i < 8192) (hF : ∀ i, F i < 8192) (w : World) :
    Calls Try.prog 78 #[tv E, tv F] w fun e w' => e = .returned (tv (orE E F 13)) ∧ Below w.heap.size w w' := by
  go_enter Try.func78, Try.ntmps78
  go_wp2
  obtain ⟨W, hW⟩ : ∃ W, W = ((w.alloc (.cells #[.int .u16 ((E 0 : Nat) : Int), .int .u16 ((E 1 : Nat) : Int), .int .u16 ((E 2 : Nat) : Int), .int .u16 ((E 3 : Nat) : Int), .int .u16 ((E 4 : Nat) : Int), .int .u16 ((E 5 : Nat) : Int), .int .u16 ((E 6 : Nat) : Int), .int .u16 ((E 7 : Nat) : Int), .int .u16 ((E 8 : Nat) : Int), .int .u16 ((E 9 : Nat) : Int), .int .u16 ((E 10 : Nat) : Int), .int .u16 ((E 11 : Nat) : Int), .int .u16 ((E 12 : Nat) : Int)] 112)).alloc (.cells #[.int .u16 ((F 0 : Nat) : Int), .int .u16 ((F 1 : Nat) : Int), .int .u16 ((F 2 : Nat) : Int), .int .u16 ((F 3 : Nat) : Int), .int .u16 ((F 4 : Nat) : Int), .int .u16 ((F 5 : Nat) : Int), .int .u16 ((F 6 : Nat) : Int), .int .u16 ((F 7 : Nat) : Int), .int .u16 ((F 8 : Nat) : Int), .int .u16 ((F 9 : Nat) : Int), .int .u16 ((F 10 : Nat) : Int), .int .u16 ((F 11 : Nat) : Int), .int .u16 ((F 12 : Nat) : Int)] 112)).alloc (.cells #[.int .u16 0, .int .u16 0, .int .u16 0, .int .u16 0, .int .u16 0, .int .u16 0, .int .u16 0, .int .u16 0, .int .u16 0, .int .u16 0, .int .u16 0, .int .u16 0, .int .u16 0] 112) := ⟨_, rfl⟩
  rw [← hW]
  have H0 : Hid (S3 w W E F (fun _ => 0)) := hide (by
    rw [hW]
    exact ⟨((rowE.new w _ _ rfl (Nat.le_refl _) E).alloc _).alloc _, (rowE.new _ _ _ (by simp) (by omega) F).alloc _, rowE.zero _ _ _ (by simp) (by omega), (((Below.refl _ _).alloc (Nat.le_refl _) _).alloc (by simp) _).alloc (by simp; omega) _⟩)
  have HE := hide hE
  have HF := hide hF
  clear hW hE hF
  go_loopw [6] (fun i wr => ∃ k : Nat, k ≤ 13 ∧ i = .int .i64 k ∧ Hid (S3 w wr (orE E F k) F (fun _ => 0))) (fun i _ => 13 - (intOf i).toNat)
  case atStart => exact ⟨0, by omega, rfl, H0⟩
  case round =>
    obtain ⟨k, hk, rfl, HS⟩ := hrel
    by_cases hlt : k < 13
    · have hltI : (k : Int) < 13 := by omega
      have ca := HS.out.a.cell k hlt
      have cb := HS.out.b.cell k hlt
      have fa := HS.out.a.frozenAt k
      have hek : orE E F k k = E k := by rw [orE_get, if_neg (by omega)]
      rw [hek] at ca
      have hor := bits_or (E k) (F k) (by have := HE.out k; omega) (by have := HF.out k; omega)
      have HN : Hid (S3 w (wr.setCell ⟨w.heap.size, k, none⟩ (.int .u16 ((E k ||| F k : Nat) : Int))).drew (orE E F (k + 1)) F (fun _ => 0)) := hide
        ⟨(HS.out.a.set k (E k ||| F k)).drew, (HS.out.b.keep k _ (by omega)).drew, (HS.out.c.keep k _ (by omega)).drew, (HS.out.bel.setCell (p := ⟨w.heap.size, k, none⟩) (Nat.le_refl _) _).drew⟩
      clear hek
      go_wp2
      go_region
      go_wp2
      go_roundw
      case rel => exact ⟨k + 1, by omega, by go_num, HN⟩
      case measure => simp [intOf]; omega
    · obtain rfl : k = 13 := by omega
      have e0 := HS.out.a.cell 0 (by omega)
      have r0 := HS.out.c.cell 0 (by omega)
      have f0 := HS.out.c.frozenAt 0
      have e1 := HS.out.a.cell 1 (by omega)
      have r1 := HS.out.c.cell 1 (by omega)
      have f1 := HS.out.c.frozenAt 1
      have e2 := HS.out.a.cell 2 (by omega)
      have r2 := HS.out.c.cell 2 (by omega)
      have f2 := HS.out.c.frozenAt 2
      have e3 := HS.out.a.cell 3 (by omega)
      have r3 := HS.out.c.cell 3 (by omega)
      have f3 := HS.out.c.frozenAt 3
      have e4 := HS.out.a.cell 4 (by omega)
      have r4 := HS.out.c.cell 4 (by omega)
      have f4 := HS.out.c.frozenAt 4
      have e5 := HS.out.a.cell 5 (by omega)
      have r5 := HS.out.c.cell 5 (by omega)
      have f5 := HS.out.c.frozenAt 5
      have e6 := HS.out.a.cell 6 (by omega)
      have r6 := HS.out.c.cell 6 (by omega)
      have f6 := HS.out.c.frozenAt 6
      have e7 := HS.out.a.cell 7 (by omega)
      have r7 := HS.out.c.cell 7 (by omega)
      have f7 := HS.out.c.frozenAt 7
      have e8 := HS.out.a.cell 8 (by omega)
      have r8 := HS.out.c.cell 8 (by omega)
      have f8 := HS.out.c.frozenAt 8
      have e9 := HS.out.a.cell 9 (by omega)
      have r9 := HS.out.c.cell 9 (by omega)
      have f9 := HS.out.c.frozenAt 9
      have e10 := HS.out.a.cell 10 (by omega)
      have r10 := HS.out.c.cell 10 (by omega)
      have f10 := HS.out.c.frozenAt 10
      have e11 := HS.out.a.cell 11 (by omega)
      have r11 := HS.out.c.cell 11 (by omega)
      have f11 := HS.out.c.frozenAt 11
      have e12 := HS.out.a.cell 12 (by omega)
      have r12 := HS.out.c.cell 12 (by omega)
      have f12 := HS.out.c.frozenAt 12
      go_wp2
      refine bodyPost_ret (v := tv (orE E F 13)) (by simp [results, Try.f78, go_sem, *]) rfl ⟨rfl, ?_⟩
      exact (((((((((((((HS.out.bel.setCell (p := ⟨w.heap.size + 1 + 1, 0, none⟩) (by simp only; omega) _).setCell (p := ⟨w.heap.size + 1 + 1, 1, none⟩) (by simp only; omega) _).setCell (p := ⟨w.heap.size + 1 + 1, 2, none⟩) (by simp only; omega) _).setCell (p := ⟨w.heap.size + 1 + 1, 3, none⟩) (by simp only; omega) _).setCell (p := ⟨w.heap.size + 1 + 1, 4, none⟩) (by simp only; omega) _).setCell (p := ⟨w.heap.size + 1 + 1, 5, none⟩) (by simp only; omega) _).setCell (p := ⟨w.heap.size + 1 + 1, 6, none⟩) (by simp only; omega) _).setCell (p := ⟨w.heap.size + 1 + 1, 7, none⟩) (by simp only; omega) _).setCell (p := ⟨w.heap.size + 1 + 1, 8, none⟩) (by simp only; omega) _).setCell (p := ⟨w.heap.size + 1 + 1, 9, none⟩) (by simp only; omega) _).setCell (p := ⟨w.heap.size + 1 + 1, 10, none⟩) (by simp only; omega) _).setCell (p := ⟨w.heap.size + 1 + 1, 11, none⟩) (by simp only; omega) _).setCell (p := ⟨w.heap.size + 1 + 1, 12, none⟩) (by simp only; omega) _)
/-- Four tables in memory. -/
structure S4 (w wr : World) (A B C D : Nat → Nat) : Prop where
  a : rowE wr w.heap.size w.heap.size A
  b : rowE wr w.heap.size (w.heap.size + 1) B
  c : rowE wr w.heap.size (w.heap.size + 2) C
  d : rowE wr w.heap.size (w.heap.size + 3) D
  bel : Below w.heap.size w wr
theorem thE_at (E F : Nat → Nat) (k : Nat) : thE E F k k = 0 := by rw [thE_get, if_neg (by omega)]
set_option maxRecDepth 100000 in
set_option maxHeartbeats 8000000 in
theorem then_any (E F : Nat → Nat) (hE : ∀ i, E i < 8192) (hF : ∀ i, F i < 8192) (w : World) :
    Calls Try.prog 77 #[tv E, tv F] w fun e w' => e = .returned (tv (thE E F 13)) ∧ Below w.heap.size w w' := by
  go_enter Try.func77, Try.ntmps77
  go_wp2
  obtain ⟨W, hW⟩ : ∃ W, W = (((w.alloc (.cells #[.int .u16 ((E 0 : Nat) : Int), .int .u16 ((E 1 : Nat) : Int), .int .u16 ((E 2 : Nat) : Int), .int .u16 ((E 3 : Nat) : Int), .int .u16 ((E 4 : Nat) : Int), .int .u16 ((E 5 : Nat) : Int), .int .u16 ((E 6 : Nat) : Int), .int .u16 ((E 7 : Nat) : Int), .int .u16 ((E 8 : Nat) : Int), .int .u16 ((E 9 : Nat) : Int), .int .u16 ((E 10 : Nat) : Int), .int .u16 ((E 11 : Nat) : Int), .int .u16 ((E 12 : Nat) : Int)] 112)).alloc (.cells #[.int .u16 ((F 0 : Nat) : Int), .int .u16 ((F 1 : Nat) : Int), .int .u16 ((F 2 : Nat) : Int), .int .u16 ((F 3 : Nat) : Int), .int .u16 ((F 4 : Nat) : Int), .int .u16 ((F 5 : Nat) : Int), .int .u16 ((F 6 : Nat) : Int), .int .u16 ((F 7 : Nat) : Int), .int .u16 ((F 8 : Nat) : Int), .int .u16 ((F 9 : Nat) : Int), .int .u16 ((F 10 : Nat) : Int), .int .u16 ((F 11 : Nat) : Int), .int .u16 ((F 12 : Nat) : Int)] 112)).alloc (.cells #[.int .u16 0, .int .u16 0, .int .u16 0, .int .u16 0, .int .u16 0, .int .u16 0, .int .u16 0, .int .u16 0, .int .u16 0, .int .u16 0, .int .u16 0, .int .u16 0, .int .u16 0] 112)).alloc (.cells #[.int .u16 0, .int .u16 0, .int .u16 0, .int .u16 0, .int .u16 0, .int .u16 0, .int .u16 0, .int .u16 0, .int .u16 0, .int .u16 0, .int .u16 0, .int .u16 0, .int .u16 0] 112) := ⟨_, rfl⟩
  rw [← hW]
  have H0 : Hid (S4 w W E F (fun _ => 0) (fun _ => 0)) := hide (by
    rw [hW]
    exact ⟨(((rowE.new w _ _ rfl (Nat.le_refl _) E).alloc _).alloc _).alloc _, ((rowE.new _ _ _ (by simp) (by omega) F).alloc _).alloc _, (rowE.zero _ _ _ (by simp) (by omega)).alloc _, rowE.zero _ _ _ (by simp) (by omega), ((((Below.refl _ _).alloc (Nat.le_refl _) _).alloc (by simp) _).alloc (by simp; omega) _).alloc (by simp; omega) _⟩)
  have HE := hide hE
  have HF := hide hF
  clear hW hE hF
  go_loopw [8] (fun i wr => ∃ k : Nat, k ≤ 13 ∧ i = .int .i64 k ∧ Hid (S4 w wr E F (fun _ => 0) (thE E F k))) (fun i _ => 13 - (intOf i).toNat)
  case atStart => exact ⟨0, by omega, rfl, H0⟩
  case round =>
    obtain ⟨k, hk, rfl, HS⟩ := hrel
    by_cases hlt : k < 13
    · have hltI : (k : Int) < 13 := by omega
      have HS0 : Hid (S4 w wr E F (fun _ => 0) (upd (thE E F k) k (thR E F k 0))) := hide (by show S4 w wr E F (fun _ => 0) (upd (thE E F k) k 0); rw [upd_same _ _ _ (thE_at E F k)]; exact HS.out)
      go_wp2
      go_loopw [11] (fun i wr => ∃ m : Nat, m ≤ 13 ∧ i = .int .i64 m ∧ Hid (S4 w wr E F (fun _ => 0) (upd (thE E F k) k (thR E F k m)))) (fun i _ => 13 - (intOf i).toNat)
      case atStart => exact ⟨0, by omega, rfl, HS0⟩
      case round =>
        obtain ⟨m, hm, rfl, HT⟩ := hrel
        by_cases hlm : m < 13
        · have hlmI : (m : Int) < 13 := by omega
          have ca := HT.out.a.cell k hlt
          have hst : thR E F k (m + 1) = if (E k).testBit m = true then thR E F k m ||| F m else thR E F k m := rfl
          cases hb : (E k).testBit m with
          | true =>
            have C := hide (fun w => has_any (E k) m (by have := HE.out k; omega) (by omega) w true hb.symm)
            rw [hb, if_pos rfl] at hst
            have cd := HT.out.d.cell k hlt
            rw [upd_self] at cd
            have cb := HT.out.b.cell m hlm
            have fd := HT.out.d.frozenAt k
            have hor := bits_or (thR E F k m) (F m) (by have := thR_lt E F HF.out k m; omega) (by have := HF.out m; omega)
            have HN : Hid (S4 w (wr.setCell ⟨w.heap.size + 3, k, none⟩ (.int .u16 ((thR E F k m ||| F m : Nat) : Int))).drew E F (fun _ => 0) (upd (thE E F k) k (thR E F k (m + 1)))) := hide (by
              rw [hst]
              have := HT.out.d.set k (thR E F k m ||| F m)
              rw [upd_upd] at this
              exact ⟨(HT.out.a.keep k _ (by omega)).drew, (HT.out.b.keep k _ (by omega)).drew, (HT.out.c.keep k _ (by omega)).drew, this.drew, (HT.out.bel.setCell (p := ⟨w.heap.size + 3, k, none⟩) (by simp only; omega) _).drew⟩)
            obtain ⟨q, hq⟩ : ∃ q, q = thR E F k m := ⟨_, rfl⟩
            rw [← hq] at cd hor HN
            clear hb hst hq
            go_wp2_with fail
            refine (C.out _).mono ?_
            rintro e w1 ⟨rfl, rfl⟩
            go_wp2
            go_region
            go_wp2
            go_roundw
            case rel => exact ⟨m + 1, by omega, by go_num, HN⟩
            case measure => simp [intOf]; omega
          | false =>
            have C := hide (fun w => has_any (E k) m (by have := HE.out k; omega) (by omega) w false hb.symm)
            rw [hb, if_neg (by simp)] at hst
            have HN : Hid (S4 w wr E F (fun _ => 0) (upd (thE E F k) k (thR E F k (m + 1)))) := hide (by rw [hst]; exact HT.out)
            clear hb hst
            go_wp2_with fail
            refine (C.out _).mono ?_
            rintro e w1 ⟨rfl, rfl⟩
            go_wp2
            go_roundw
            case rel => exact ⟨m + 1, by omega, by go_num, HN⟩
            case measure => simp [intOf]; omega
        · obtain rfl : m = 13 := by omega
          go_wp2
          go_roundw
          case rel => exact ⟨k + 1, by omega, by go_num, HT⟩
          case measure => simp [intOf]; omega
    · obtain rfl : k = 13 := by omega
      have e0 := HS.out.d.cell 0 (by omega)
      have r0 := HS.out.c.cell 0 (by omega)
      have f0 := HS.out.c.frozenAt 0
      have e1 := HS.out.d.cell 1 (by omega)
      have r1 := HS.out.c.cell 1 (by omega)
      have f1 := HS.out.c.frozenAt 1
      have e2 := HS.out.d.cell 2 (by omega)
      have r2 := HS.out.c.cell 2 (by omega)
      have f2 := HS.out.c.frozenAt 2
      have e3 := HS.out.d.cell 3 (by omega)
      have r3 := HS.out.c.cell 3 (by omega)
      have f3 := HS.out.c.frozenAt 3
      have e4 := HS.out.d.cell 4 (by omega)
      have r4 := HS.out.c.cell 4 (by omega)
      have f4 := HS.out.c.frozenAt 4
      have e5 := HS.out.d.cell 5 (by omega)
      have r5 := HS.out.c.cell 5 (by omega)
      have f5 := HS.out.c.frozenAt 5
      have e6 := HS.out.d.cell 6 (by omega)
      have r6 := HS.out.c.cell 6 (by omega)
      have f6 := HS.out.c.frozenAt 6
      have e7 := HS.out.d.cell 7 (by omega)
      have r7 := HS.out.c.cell 7 (by omega)
      have f7 := HS.out.c.frozenAt 7
      have e8 := HS.out.d.cell 8 (by omega)
      have r8 := HS.out.c.cell 8 (by omega)
      have f8 := HS.out.c.frozenAt 8
      have e9 := HS.out.d.cell 9 (by omega)
      have r9 := HS.out.c.cell 9 (by omega)
      have f9 := HS.out.c.frozenAt 9
      have e10 := HS.out.d.cell 10 (by omega)
      have r10 := HS.out.c.cell 10 (by omega)
      have f10 := HS.out.c.frozenAt 10
      have e11 := HS.out.d.cell 11 (by omega)
      have r11 := HS.out.c.cell 11 (by omega)
      have f11 := HS.out.c.frozenAt 11
      have e12 := HS.out.d.cell 12 (by omega)
      have r12 := HS.out.c.cell 12 (by omega)
      have f12 := HS.out.c.frozenAt 12
      go_wp2
      refine bodyPost_ret (v := tv (thE E F 13)) (by simp [results, Try.f77, go_sem, *]) rfl ⟨rfl, ?_⟩
      exact (((((((((((((HS.out.bel.setCell (p := ⟨w.heap.size + 1 + 1, 0, none⟩) (by simp only; omega) _).setCell (p := ⟨w.heap.size + 1 + 1, 1, none⟩) (by simp only; omega) _).setCell (p := ⟨w.heap.size + 1 + 1, 2, none⟩) (by simp only; omega) _).setCell (p := ⟨w.heap.size + 1 + 1, 3, none⟩) (by simp only; omega) _).setCell (p := ⟨w.heap.size + 1 + 1, 4, none⟩) (by simp only; omega) _).setCell (p := ⟨w.heap.size + 1 + 1, 5, none⟩) (by simp only; omega) _).setCell (p := ⟨w.heap.size + 1 + 1, 6, none⟩) (by simp only; omega) _).setCell (p := ⟨w.heap.size + 1 + 1, 7, none⟩) (by simp only; omega) _).setCell (p := ⟨w.heap.size + 1 + 1, 8, none⟩) (by simp only; omega) _).setCell (p := ⟨w.heap.size + 1 + 1, 9, none⟩) (by simp only; omega) _).setCell (p := ⟨w.heap.size + 1 + 1, 10, none⟩) (by simp only; omega) _).setCell (p := ⟨w.heap.size + 1 + 1, 11, none⟩) (by simp only; omega) _).setCell (p := ⟨w.heap.size + 1 + 1, 12, none⟩) (by simp only; omega) _)
theorem ntR_lt (E : Nat → Nat) (n i : Nat) (hn : n ≤ 12) : ∀ c, i + c ≤ n + 1 → ntR E i c < 8192
  | 0, _ => by simp [ntR]
  | c + 1, h => by
    have ih := ntR_lt E n i hn c (by omega)
    have : 2 ^ (i + c) < 8192 := Nat.pow_lt_pow_right (by omega) (show i + c < 13 by omega)
    unfold ntR
    split
    · exact ih
    · exact or_lt ih this
theorem ntE_at (E : Nat → Nat) (n k : Nat) : ntE E n k k = 0 := by rw [ntE_get, if_neg (by omega)]
theorem pow_cast (j : Nat) : ((2 ^ j : Nat) : Int) = 2 ^ j := by simp
theorem shl1 (j : Nat) (hj : j ≤ 12) : IntKind.u16.wrap (2 ^ j) = ((2 ^ j : Nat) : Int) := by
  have : 2 ^ j < 65536 := Nat.pow_lt_pow_right (by omega) (show j < 16 by omega)
  rw [← pow_cast, wrap_u16 _ this]
theorem shl2 (j : Nat) (hj : j ≤ 11) : IntKind.u16.wrap (2 * 2 ^ j) = ((2 * 2 ^ j : Nat) : Int) := by
  have : 2 ^ j < 32768 := Nat.pow_lt_pow_right (by omega) (show j < 15 by omega)
  rw [show (2 * 2 ^ j : Int) = ((2 * 2 ^ j : Nat) : Int) by simp, wrap_u16 _ (by omega)]
set_option maxRecDepth 100000 in
set_option maxHeartbeats 8000000 in
theorem not_any (E : Nat → Nat) (n : Nat) (hn : n ≤ 12) (hE : ∀ i, E i < 8192) (w : World) :
    Calls Try.prog 80 #[tv E, .int .i64 (n : Int)] w fun e w' => e = .returned (tv (ntE E n (n + 1))) ∧ Below w.heap.size w w' := by
  go_enter Try.func80, Try.ntmps80
  go_wp2
  obtain ⟨W, hW⟩ : ∃ W, W = ((w.alloc (.cells #[.int .u16 ((E 0 : Nat) : Int), .int .u16 ((E 1 : Nat) : Int), .int .u16 ((E 2 : Nat) : Int), .int .u16 ((E 3 : Nat) : Int), .int .u16 ((E 4 : Nat) : Int), .int .u16 ((E 5 : Nat) : Int), .int .u16 ((E 6 : Nat) : Int), .int .u16 ((E 7 : Nat) : Int), .int .u16 ((E 8 : Nat) : Int), .int .u16 ((E 9 : Nat) : Int), .int .u16 ((E 10 : Nat) : Int), .int .u16 ((E 11 : Nat) : Int), .int .u16 ((E 12 : Nat) : Int)] 112)).alloc (.cells #[.int .u16 0, .int .u16 0, .int .u16 0, .int .u16 0, .int .u16 0, .int .u16 0, .int .u16 0, .int .u16 0, .int .u16 0, .int .u16 0, .int .u16 0, .int .u16 0, .int .u16 0] 112)).alloc (.cells #[.int .u16 0, .int .u16 0, .int .u16 0, .int .u16 0, .int .u16 0, .int .u16 0, .int .u16 0, .int .u16 0, .int .u16 0, .int .u16 0, .int .u16 0, .int .u16 0, .int .u16 0] 112) := ⟨_, rfl⟩
  rw [← hW]
  have H0 : Hid (S3 w W E (fun _ => 0) (fun _ => 0)) := hide (by
    rw [hW]
    exact ⟨((rowE.new w _ _ rfl (Nat.le_refl _) E).alloc _).alloc _, (rowE.zero _ _ _ (by simp) (by omega)).alloc _, rowE.zero _ _ _ (by simp) (by omega), (((Below.refl _ _).alloc (Nat.le_refl _) _).alloc (by simp) _).alloc (by simp; omega) _⟩)
  have HE := hide hE
  clear hW hE
  go_loopw [10] (fun i wr => ∃ k : Nat, k ≤ n + 1 ∧ i = .int .i64 k ∧ Hid (S3 w wr E (fun _ => 0) (ntE E n k))) (fun i _ => n + 1 - (intOf i).toNat)
  case atStart => exact ⟨0, by omega, rfl, H0⟩
  case round =>
    obtain ⟨k, hk, rfl, HS⟩ := hrel
    by_cases hlt : k < n + 1
    · have hltI : (k : Int) < (n : Int) + 1 := by omega
      have hk13 : (k : Int) < 13 := by omega
      have HS0 : Hid (S3 w wr E (fun _ => 0) (upd (ntE E n k) k (ntR E k 0))) := hide (by show S3 w wr E (fun _ => 0) (upd (ntE E n k) k 0); rw [upd_same _ _ _ (ntE_at E n k)]; exact HS.out)
      go_wp2
      go_loopw [7] (fun i wr => ∃ m : Nat, k + m ≤ n + 1 ∧ i = .int .i64 ((k : Int) + (m : Int)) ∧ Hid (S3 w wr E (fun _ => 0) (upd (ntE E n k) k (ntR E k m)))) (fun i _ => n + 1 - (intOf i).toNat)
      case atStart => exact ⟨0, by omega, by simp, HS0⟩
      case round =>
        obtain ⟨m, hm, rfl, HT⟩ := hrel
        by_cases hlm : k + m ≤ n
        · have hlmI : (k : Int) + (m : Int) ≤ (n : Int) := by omega
          have hj16 : (k : Int) + (m : Int) ≤ 16 := by omega
          have hj0 : (0 : Int) ≤ (k : Int) + (m : Int) := by omega
          have htn : ((k : Int) + (m : Int)).toNat = k + m := by omega
          have hcast : (k : Int) + (m : Int) = ((k + m : Nat) : Int) := by omega
          have ca := HT.out.a.cell k (by omega)
          have hst : ntR E k (m + 1) = if (E k).testBit (k + m) = true then ntR E k m else ntR E k m ||| 2 ^ (k + m) := rfl
          cases hb : (E k).testBit (k + m) with
          | false =>
            have C := hide (fun w => has_any (E k) (k + m) (by have := HE.out k; omega) (by omega) w false hb.symm)
            rw [hb, if_neg (by simp)] at hst
            have cc := HT.out.c.cell k (by omega)
            rw [upd_self] at cc
            have fc := HT.out.c.frozenAt k
            have hsh := shl1 (k + m) (by omega)
            have hor := bits_or (ntR E k m) (2 ^ (k + m)) (by have := ntR_lt E n k hn m (by omega); omega) (Nat.pow_lt_pow_right (by omega) (show k + m < 16 by omega))
            rw [pow_cast] at hor hsh
            have HN : Hid (S3 w (wr.setCell ⟨w.heap.size + 2, k, none⟩ (.int .u16 ((ntR E k m ||| 2 ^ (k + m) : Nat) : Int))).drew E (fun _ => 0) (upd (ntE E n k) k (ntR E k (m + 1)))) := hide (by
              rw [hst]
              have := HT.out.c.set k (ntR E k m ||| 2 ^ (k + m))
              rw [upd_upd] at this
              exact ⟨(HT.out.a.keep k _ (by omega)).drew, (HT.out.b.keep k _ (by omega)).drew, this.drew, (HT.out.bel.setCell (p := ⟨w.heap.size + 2, k, none⟩) (by simp only; omega) _).drew⟩)
            obtain ⟨q, hq⟩ : ∃ q, q = ntR E k m := ⟨_, rfl⟩
            rw [← hq] at cc hor HN
            rw [← hcast] at C
            clear hb hst hq hcast
            go_wp2_with fail
            refine (C.out _).mono ?_
            rintro e w1 ⟨rfl, rfl⟩
            go_wp2
            go_region
            go_wp2
            go_roundw
            case rel => exact ⟨m + 1, by omega, by go_num, HN⟩
            case measure => simp [intOf]; omega
          | true =>
            have C := hide (fun w => has_any (E k) (k + m) (by have := HE.out k; omega) (by omega) w true hb.symm)
            rw [hb, if_pos rfl] at hst
            have HN : Hid (S3 w wr E (fun _ => 0) (upd (ntE E n k) k (ntR E k (m + 1)))) := hide (by rw [hst]; exact HT.out)
            rw [← hcast] at C
            clear hb hst hcast
            go_wp2_with fail
            refine (C.out _).mono ?_
            rintro e w1 ⟨rfl, rfl⟩
            go_wp2
            go_roundw
            case rel => exact ⟨m + 1, by omega, by go_num, HN⟩
            case measure => simp [intOf]; omega
        · have hlmI : ¬ (k : Int) + (m : Int) ≤ (n : Int) := by omega
          have HN : Hid (S3 w wr E (fun _ => 0) (ntE E n (k + 1))) := hide (by
            have e : m = n + 1 - k := by omega
            rw [e] at HT
            exact HT.out)
          go_wp2
          go_roundw
          case rel => exact ⟨k + 1, by omega, by go_num, HN⟩
          case measure => simp [intOf]; omega
    · obtain rfl : k = n + 1 := by omega
      have hltI : ¬ ((n + 1 : Nat) : Int) < (n : Int) + 1 := by omega
      have e0 := HS.out.c.cell 0 (by omega)
      have r0 := HS.out.b.cell 0 (by omega)
      have f0 := HS.out.b.frozenAt 0
      have e1 := HS.out.c.cell 1 (by omega)
      have r1 := HS.out.b.cell 1 (by omega)
      have f1 := HS.out.b.frozenAt 1
      have e2 := HS.out.c.cell 2 (by omega)
      have r2 := HS.out.b.cell 2 (by omega)
      have f2 := HS.out.b.frozenAt 2
      have e3 := HS.out.c.cell 3 (by omega)
      have r3 := HS.out.b.cell 3 (by omega)
      have f3 := HS.out.b.frozenAt 3
      have e4 := HS.out.c.cell 4 (by omega)
      have r4 := HS.out.b.cell 4 (by omega)
      have f4 := HS.out.b.frozenAt 4
      have e5 := HS.out.c.cell 5 (by omega)
      have r5 := HS.out.b.cell 5 (by omega)
      have f5 := HS.out.b.frozenAt 5
      have e6 := HS.out.c.cell 6 (by omega)
      have r6 := HS.out.b.cell 6 (by omega)
      have f6 := HS.out.b.frozenAt 6
      have e7 := HS.out.c.cell 7 (by omega)
      have r7 := HS.out.b.cell 7 (by omega)
      have f7 := HS.out.b.frozenAt 7
      have e8 := HS.out.c.cell 8 (by omega)
      have r8 := HS.out.b.cell 8 (by omega)
      have f8 := HS.out.b.frozenAt 8
      have e9 := HS.out.c.cell 9 (by omega)
      have r9 := HS.out.b.cell 9 (by omega)
      have f9 := HS.out.b.frozenAt 9
      have e10 := HS.out.c.cell 10 (by omega)
      have r10 := HS.out.b.cell 10 (by omega)
      have f10 := HS.out.b.frozenAt 10
      have e11 := HS.out.c.cell 11 (by omega)
      have r11 := HS.out.b.cell 11 (by omega)
      have f11 := HS.out.b.frozenAt 11
      have e12 := HS.out.c.cell 12 (by omega)
      have r12 := HS.out.b.cell 12 (by omega)
      have f12 := HS.out.b.frozenAt 12
      go_wp2
      refine bodyPost_ret (v := tv (ntE E n (n + 1))) (by simp [results, Try.f80, go_sem, *]) rfl ⟨rfl, ?_⟩
      exact (((((((((((((HS.out.bel.setCell (p := ⟨w.heap.size + 1, 0, none⟩) (by simp only; omega) _).setCell (p := ⟨w.heap.size + 1, 1, none⟩) (by simp only; omega) _).setCell (p := ⟨w.heap.size + 1, 2, none⟩) (by simp only; omega) _).setCell (p := ⟨w.heap.size + 1, 3, none⟩) (by simp only; omega) _).setCell (p := ⟨w.heap.size + 1, 4, none⟩) (by simp only; omega) _).setCell (p := ⟨w.heap.size + 1, 5, none⟩) (by simp only; omega) _).setCell (p := ⟨w.heap.size + 1, 6, none⟩) (by simp only; omega) _).setCell (p := ⟨w.heap.size + 1, 7, none⟩) (by simp only; omega) _).setCell (p := ⟨w.heap.size + 1, 8, none⟩) (by simp only; omega) _).setCell (p := ⟨w.heap.size + 1, 9, none⟩) (by simp only; omega) _).setCell (p := ⟨w.heap.size + 1, 10, none⟩) (by simp only; omega) _).setCell (p := ⟨w.heap.size + 1, 11, none⟩) (by simp only; omega) _).setCell (p := ⟨w.heap.size + 1, 12, none⟩) (by simp only; omega) _)
end Go.Proofs.Ytkdiffpbljohkay.L5
