/-
  Some entries that are drawn; the cursor's new memory.
-/
import Derived.Test.YtdnmklcnlndmhacL7Ent
import Derived.Test.YtdnmklcnlndmhacL3Cur
import Derived.Test.YtdnmklcnlndmhacL1Bytes
namespace Go.Proofs.Ytdnmklcnlndmhac.L7
open Go.RowKit L1
set_option linter.unusedVariables false

theorem cur_new {w : World} {a : Option Addr} {n cap : Nat} (h : Slb w w.heap.size a n) (hn : n ≤ 1048576) : Cur (w.alloc (Obj.cells #[.slice a n cap, .int .i64 0, .int .u64 0] 53)) w.heap.size 0 := by
  refine ⟨a, n, cap, 0, 0, by show (w.heap.push _)[w.heap.size]? = _; simp, Nat.le_refl _, hn, fun i hi => ?_⟩
  obtain ⟨bb, off, x, ha, hlt, hc, hx⟩ := h i hi
  exact ⟨bb, off, x, ha, hlt, by rw [World.cell?_of_block (w := w) (Below.heap_alloc _ _ _ hlt)]; exact hc, hx⟩
theorem grown_to_below {w w' : World} {o : Obj} (h : (w.alloc o).grownBy w' (some w.heap.size)) : Below w.heap.size w w' := by
  have h1 : Below w.heap.size (w.alloc o) w' := ⟨h.os, h.tape, h.output, h.size, fun k hk => h.block k (by simp; omega) (by simp; omega)⟩
  exact ((Below.refl _ _).alloc (Nat.le_refl _) _).trans h1
theorem Slb.below {w w' : World} {a : Option Addr} {n : Nat} (h : Slb w w.heap.size a n) (hb : Below w.heap.size w w') : Slb w' w'.heap.size a n := fun i hi => by
  obtain ⟨bb, off, x, ha, hlt, hc, hx⟩ := h i hi
  exact ⟨bb, off, x, ha, by have := hb.size; omega, by rw [hb.cell (p := ⟨bb, off + i, none⟩) hlt]; exact hc, hx⟩
theorem sl_len {w : World} {k : IntKind} {a : Option Addr} {len cap : Nat} {zs : List Int} (h : IsRow k w a len cap zs) : len ≤ 9223372036854775807 := by
  rcases h with ⟨_, rfl, _⟩ | ⟨x, _, hl, hm, _⟩
  · omega
  · unfold maxLen at hm; omega
theorem slb_of_row {w : World} {a : Option Addr} {len cap : Nat} {zs : List Int} (h : IsRow .u8 w a len cap zs) : Slb w w.heap.size a len := by
  rcases h with ⟨rfl, rfl, rfl, rfl⟩ | ⟨x, rfl, hl, hm, hz, hc, hwf⟩
  · exact fun i hi => absurd hi (Nat.not_lt_zero _)
  · intro i hi
    have hi' : i < zs.length := by omega
    have h0 := hc i hi'
    obtain ⟨b, off, spot⟩ := x
    have hspot : spot = none := by
      have h00 := hc 0 (by omega)
      simpa [Addr.add] using World.cell?_spot h00
    subst hspot
    have e : (⟨b, off, none⟩ : Addr).add i = ⟨b, off + i, none⟩ := by unfold Addr.add; split <;> simp_all
    rw [e] at h0
    have hw := hwf (zs.getD i 0) (by rw [List.getD, List.getElem?_eq_getElem hi']; simp)
    have hb := bounds_u8 hw
    exact ⟨b, off, zs.getD i 0, rfl, blk_lt h0, h0, by omega, by omega⟩


theorem own_grown4 {w w' : World} {base n b c : Nat} {t : TypeId} {v : Value} {ys : List Value} (h : w.ownsRow base t c v n ys) (hg : w.grownBy w' (some b)) (hb : b < base) : w'.ownsRow base t c v n ys := by
  refine ⟨h.1, ?_⟩
  rcases h.2 with h0 | ⟨g, cap, cur, rfl, hbg, hgg, r⟩
  · exact .inl h0
  · exact .inr ⟨g, cap, cur, rfl, hbg, by rw [hg.block g (Array.getElem?_eq_some_iff.1 hgg).1 (fun e => by cases e; omega)]; exact hgg, r⟩
theorem grown_low {a b c : World} {r : Option Nat} (h : a.grownBy b r) (k : Below a.heap.size b c) : a.grownBy c r :=
  ⟨k.os.trans h.os, k.tape.trans h.tape, k.output.trans h.output, Nat.le_trans h.size k.size, fun i hi hn => (k.block i hi).trans (h.block i hi hn)⟩
/-- A row of short texts. -/
def Txts (w : World) (g m : Nat) : Prop := ∀ j, j < m → ∃ s : ByteArray, w.cell? ⟨g, j, none⟩ = some (.string s) ∧ s.size ≤ 20
theorem Txts.grown {w w' : World} {g m b : Nat} (h : Txts w g m) (hg : w.grownBy w' (some b)) (hb : g ≠ b) : Txts w' g m := fun j hj => by
  obtain ⟨s, h1, h2⟩ := h j hj
  exact ⟨s, by rw [World.cell?_of_block (w := w) (hg.block g (blk_lt h1) (by simpa using hb))]; exact h1, h2⟩
theorem txts_new (w : World) (l : List ByteArray) (t : TypeId) (h : ∀ s ∈ l, s.size ≤ 20) : Txts (w.alloc (.cells (l.map Value.string).toArray t)) w.heap.size l.length := fun j hj => by
  refine ⟨l[j], ?_, h _ (List.getElem_mem hj)⟩
  have hb : (w.alloc (.cells (l.map Value.string).toArray t)).heap[w.heap.size]? = some (.cells (l.map Value.string).toArray t (0, 0)) := by show (w.heap.push _)[w.heap.size]? = _; simp
  rw [Lib.cell_of_heap hb]
  simp [hj]
set_option maxRecDepth 100000 in
set_option maxHeartbeats 400000 in
theorem of_any (b N g m cap : Nat) (w : World) (h : Cur w b N) (hN : N ≤ 1000000000) (h1 : 1 ≤ m) (h2 : m ≤ 1000) (hg : g ≠ b) (hs : Txts w g m) :
    Calls Try.prog 51 #[.pointer (some ⟨b, 0, none⟩), .slice (some ⟨g, 0, none⟩) m cap] w fun e w' => ∃ s : ByteArray, e = .returned (.string s) ∧ s.size ≤ 20 ∧ Cur w' b (N + 2) ∧ w.grownBy w' (some b) := by
  have HC := hide h
  have HS := hide hs
  clear h hs
  go_enter Try.func51, Try.ntmps51
  go_wp2_with fail
  refine (pick_any b N _ _ HC.out hN (by omega) (by omega)).mono ?_
  rintro e w1 ⟨x, rfl, hx0, hx1, hxm, hc1, hg1⟩
  have hxm' : x < (m : Int) := hxm (by omega)
  clear hxm
  obtain ⟨j, rfl⟩ : ∃ j : Nat, x = (j : Int) := ⟨x.toNat, by omega⟩
  obtain ⟨s, hc, hsz⟩ := HS.out.grown hg1 hg j (by omega)
  have H1 := hide hc1
  have G1 := hide hg1
  clear hc1 hg1
  go_wp2
  go_ret
  exact ⟨s, rfl, hsz, H1.out, G1.out⟩

/-- Some entries that the caller owns. -/
def OwnEn (w : World) (B : Nat) (v : Value) (m : Nat) (M : Int) : Prop := ∃ l : List En, l.length ≤ m ∧ (∀ p ∈ l, (0 ≤ p.1 ∧ p.1 ≤ M) ∧ p.2.size ≤ 20) ∧ w.ownsRow B 33 2 v l.length (flatE l)
theorem OwnEn.grown {w w' : World} {B b m : Nat} {v : Value} {M : Int} (h : OwnEn w B v m M) (hg : w.grownBy w' (some b)) (hb : b < B) : OwnEn w' B v m M := by
  obtain ⟨xs, hl, hp, ho⟩ := h
  exact ⟨xs, hl, hp, own_grown4 ho hg hb⟩
theorem OwnEn.below {w w' : World} {B m : Nat} {v : Value} {M : Int} (h : OwnEn w B v m M) (hb : Below w.heap.size w w') : OwnEn w' B v m M := by
  obtain ⟨xs, hl, hp, ho⟩ := h
  exact ⟨xs, hl, hp, own_belowT ho hb⟩
theorem OwnEn.base {w : World} {B B' m : Nat} {v : Value} {M : Int} (h : OwnEn w B v m M) (hb : B' ≤ B) : OwnEn w B' v m M := by
  obtain ⟨xs, hl, hp, ho⟩ := h
  exact ⟨xs, hl, hp, own_baseT ho hb⟩
theorem own_shape7 {w : World} {base n c : Nat} {t : TypeId} {v : Value} {xs : List Value} (h : w.ownsRow base t c v n xs) : ∃ a cap, v = .slice a n cap ∧ n ≤ cap ∧ (a = none → cap = 0) := by
  rcases h.2 with ⟨hv, h0⟩ | ⟨g, cap, cur, hv, _, _, hle, _⟩
  · exact ⟨none, 0, by rw [hv, h0], by omega, fun _ => rfl⟩
  · exact ⟨_, cap, hv, hle, fun h => by cases h⟩
theorem own_belowB {w w' : World} {base n B : Nat} {t : TypeId} {c : Nat} {v : Value} {ys : List Value} (h : w.ownsRow base t c v n ys) (hb : Below B w w') (hlt : ∀ g, v.ownBlock = some g → g < B) : w'.ownsRow base t c v n ys := by
  refine ⟨h.1, ?_⟩
  rcases h.2 with h0 | ⟨g, cap, cur, rfl, hbg, hg, r⟩
  · exact .inl h0
  · exact .inr ⟨g, cap, cur, rfl, hbg, by rw [hb.block g (hlt g rfl)]; exact hg, r⟩
theorem cell_two_at (w : World) (p q : Value) (t : TypeId) : ∀ j u, [p, q][j]? = some u → (w.alloc (.cells #[p, q] t)).cell? ((⟨w.heap.size, 0, none⟩ : Addr).add j) = some u := by
  intro j u h
  rw [addr_add]
  match j, h with
  | 0, h => simp at h; subst h; simp
  | 1, h => simp at h; subst h; simp
  | j + 2, h => simp at h
theorem flatE_snoc (l : List En) (p : En) : flatE (l ++ [p]) = flatE l ++ [.int .i64 p.1, .string p.2] := by rw [flatE_append]; rfl
theorem lit4 (j : Nat) (hj : j < 4) : 0 ≤ ([0, 1, 1000, 1001] : List Int).getD j 0 ∧ ([0, 1, 1000, 1001] : List Int).getD j 0 ≤ 1001 := by
  have : j = 0 ∨ j = 1 ∨ j = 2 ∨ j = 3 := by omega
  rcases this with rfl | rfl | rfl | rfl <;> exact ⟨by decide, by decide⟩
theorem cur_set7 {w : World} {b N gx j : Nat} (c : Cur w b N) (hb : b < gx) (u : Value) : Cur (w.setCell ⟨gx, j, none⟩ u) b N := c.kept fun k hk => Below.heap_setCell w ⟨gx, j, none⟩ u k (by simp only; omega)
end Go.Proofs.Ytdnmklcnlndmhac.L7
