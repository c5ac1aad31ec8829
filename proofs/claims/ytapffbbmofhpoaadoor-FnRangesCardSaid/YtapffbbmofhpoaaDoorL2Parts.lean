/-
  Contracts: the times and the values of samples, each gathered in new memory (spec.l2Parts).
-/
import Derived.Test.YtapffbbmofhpoaaDoorL2Smp
import Derived.Maps.AppendAt
namespace Go.Proofs.YtapffbbmofhpoaaDoor.L1
open Go.RowKit
set_option linter.unusedVariables false

/-- Two rows of ints that a call owns, in two blocks. -/
def Two (B : Nat) (w : World) (ot ov : Value) (k : Nat) (ts vs : List Int) : Prop :=
  w.ownsRow B 3 1 ot k (ts.map (Value.int .i64)) ∧ w.ownsRow B 3 1 ov k (vs.map (Value.int .i64)) ∧ ∀ g, ot.ownBlock = some g → ov.ownBlock ≠ some g
theorem two_nil (B : Nat) (w : World) : Two B w (.slice none 0 0) (.slice none 0 0) 0 [] [] := ⟨World.ownsRow_nil _ _ _ _, World.ownsRow_nil _ _ _ _, fun g h => by simp [Value.ownBlock] at h⟩
theorem Two.form {B k : Nat} {w : World} {ot ov : Value} {ts vs : List Int} (h : Two B w ot ov k ts vs) : ∃ a c b d, ot = .slice a k c ∧ ov = .slice b k d ∧ Sl w a ts ∧ Sl w b vs := by
  obtain ⟨a, c, e1, s1, _⟩ := own_form h.1
  obtain ⟨b, d, e2, s2, _⟩ := own_form h.2.1
  exact ⟨a, c, b, d, e1, e2, s1, s2⟩
theorem ownsRow_succ' {W : World} {base : Nat} {e : TypeId} {size : Nat} {v : Value} {k : Nat} {xs : List Value} (h : W.ownsRow base e size v (k + 1) xs) : ∃ g cap, v = .slice (some ⟨g, 0, none⟩) (k + 1) cap := by
  rcases h.2 with ⟨_, h0⟩ | ⟨g, cap, cur, hv, _⟩
  · omega
  · exact ⟨g, cap, hv⟩
theorem below_app {w w' : World} {o : Obj} {row : Option Nat} {B : Nat} (hB : B ≤ w.heap.size) (hg : (w.alloc o).grownBy w' row) (hr : ∀ g, row = some g → B ≤ g) : Below B w w' :=
  ((Below.refl B w).alloc hB o).grown hg (by simp; omega) hr
/-- Behind the first append of a round. -/
theorem two_first {B k : Nat} {wr w3 : World} {ot ov v3 : Value} {ts vs : List Int} {x : Int} {T1 T2 : TypeId} {p q y : Value} (h : Two B wr ot ov k ts vs)
    (hg : ((wr.alloc (.cells #[p, y] T1)).alloc (.cells #[q] T2)).grownBy w3 ot.ownBlock) (hown : w3.ownsRow B 3 1 v3 (k + 1) (ts.map (Value.int .i64) ++ [.int .i64 x]))
    (hblk : v3.ownBlock = ot.ownBlock ∨ v3.ownBlock = some (wr.heap.size + 1 + 1)) (hB : B ≤ wr.heap.size := by omega) :
    w3.cell? ⟨wr.heap.size, 1, none⟩ = some y ∧ Below B wr w3 ∧ Hid (w3.ownsRow B 3 1 v3 (k + 1) ((ts ++ [x]).map (Value.int .i64)) ∧ w3.ownsRow B 3 1 ov k (vs.map (Value.int .i64)) ∧ ∀ g, v3.ownBlock = some g → ov.ownBlock ≠ some g) := by
  refine ⟨?_, ?_, by simpa using hown, ?_, ?_⟩
  · refine hg.cell (a := ⟨wr.heap.size, 1, none⟩) (by simp) (fun e => ?_)
    have := (h.1.lt wr.heap.size e.symm).2
    omega
  · exact (((Below.refl B wr).alloc hB _).alloc (by simp; omega) _).grown hg (by simp; omega) (fun g e => (h.1.lt g e).1)
  · refine ((h.2.1.alloc _).alloc _).kept hg ?_
    cases hov : ov.ownBlock with
    | none => exact .inl rfl
    | some g => exact .inr (fun e => h.2.2 g e.symm hov)
  · intro g e1 e2
    rcases hblk with hb | hb
    · exact h.2.2 g (hb ▸ e1) e2
    · rw [hb] at e1
      cases e1
      have := (h.2.1.lt _ e2).2
      omega
/-- Behind the second. -/
theorem two_second {B k : Nat} {w3 w4 : World} {v3 ov v4 : Value} {ts vs : List Int} {y : Int} {o : Obj} (h : w3.ownsRow B 3 1 v3 (k + 1) (ts.map (Value.int .i64)) ∧ w3.ownsRow B 3 1 ov k (vs.map (Value.int .i64)) ∧ ∀ g, v3.ownBlock = some g → ov.ownBlock ≠ some g)
    (hg : (w3.alloc o).grownBy w4 ov.ownBlock) (hown : w4.ownsRow B 3 1 v4 (k + 1) (vs.map (Value.int .i64) ++ [.int .i64 y]))
    (hblk : v4.ownBlock = ov.ownBlock ∨ v4.ownBlock = some (w3.heap.size + 1)) : Two B w4 v3 v4 (k + 1) ts (vs ++ [y]) := by
  refine ⟨?_, by simpa using hown, ?_⟩
  · refine (h.1.alloc _).kept hg ?_
    cases h3 : v3.ownBlock with
    | none => exact .inl rfl
    | some g => exact .inr (fun e => h.2.2 g h3 e.symm)
  · intro g e1 e2
    rcases hblk with hb | hb
    · exact h.2.2 g e1 (hb ▸ e2)
    · rw [hb] at e2
      cases e2
      have := (h.1.lt _ e1).2
      omega

set_option maxRecDepth 100000 in
set_option maxHeartbeats 1000000 in
theorem l2Parts_any (a : Option Addr) (l : List (Int × Int)) (n cap : Nat) (w : World) (hn : l.length = n) (hs : Sl2 w a l) (hn2 : n ≤ 40) :
    Calls Tryd.prog 135 #[.slice a n cap] w fun e w' => ∃ ot, ∃ ov, e = .returned (.tuple #[ot, ov]) ∧ Two w.heap.size w' ot ov n (ats l) (vals l) ∧ Below w.heap.size w w' := by
  obtain ⟨i0, hi, hz0, hz1, hz2⟩ := info_parts info_int
  have HS := hide hs
  have HN := hide hn
  clear hs hn
  go_enter Tryd.func135, Tryd.ntmps135
  go_wp2
  go_loopw [4, 5, 10] (fun ot ov i wr => ∃ k : Nat, k ≤ n ∧ i = .int .i64 k ∧ Two w.heap.size wr ot ov k ((ats l).take k) ((vals l).take k) ∧ Below w.heap.size w wr) (fun _ _ i _ => n - (intOf i).toNat)
  case atStart => exact ⟨0, Nat.zero_le _, rfl, two_nil _ _, Below.refl _ _⟩
  case round =>
    obtain ⟨k, hk, rfl, htwo, hbel⟩ := hrel
    obtain ⟨oa, ocap, qa, qcap, rfl, rfl, _, _⟩ := htwo.form
    by_cases hlt : k < n
    · obtain ⟨b, off, rfl, hc0, hd0⟩ := HS.out k (by rw [HN.out]; exact hlt)
      have hc : wr.cell? ⟨b, off + k * 2, none⟩ = some (.int .i64 (l.getD k (0, 0)).1) := by
        rw [hbel.cell (p := ⟨b, off + k * 2, none⟩) (blk_lt hc0)]; exact hc0
      have hd : wr.cell? ⟨b, off + k * 2 + 1, none⟩ = some (.int .i64 (l.getD k (0, 0)).2) := by
        rw [hbel.cell (p := ⟨b, off + k * 2 + 1, none⟩) (blk_lt hd0)]; exact hd0
      have hltI : (k : Int) < (n : Int) := by omega
      have ht1 := ltake_snoc (ats l) k (by rw [ats_len, HN.out]; exact hlt)
      have ht2 := ltake_snoc (vals l) k (by rw [vals_len, HN.out]; exact hlt)
      rw [ats_get] at ht1
      rw [vals_get] at ht2
      obtain ⟨x, hx⟩ : ∃ x, x = (l.getD k (0, 0)).1 := ⟨_, rfl⟩
      obtain ⟨y, hy⟩ : ∃ y, y = (l.getD k (0, 0)).2 := ⟨_, rfl⟩
      rw [← hx] at hc ht1
      rw [← hy] at hd ht2
      obtain ⟨ts, hts⟩ : ∃ ts, ts = (ats l).take k := ⟨_, rfl⟩
      obtain ⟨vs, hvs⟩ : ∃ vs, vs = (vals l).take k := ⟨_, rfl⟩
      rw [← hts] at ht1 htwo
      rw [← hvs] at ht2 htwo
      have HT1 := hide ht1
      have HT2 := hide ht2
      have hbs := hbel.size
      have HTW := hide htwo
      clear hc0 hd0 hx hy ht1 ht2 htwo hts hvs
      go_wp2_with (first
        | (at_builtin; refine wpList_append_own_at _ rfl _ _ 32 rfl w.heap.size 3 i0 (.int .i64 0) 1 8 Tryd.underlying32 hi hz0 hz1 hz2 rfl (by decide) _ _ _ rfl ((HTW.out.1.alloc _).alloc _) ⟨wr.heap.size + 1, 0, none⟩ 1 1 [.int .i64 x] rfl rfl (fun j u h => by have := cell_one_new (wr.alloc (.cells #[.int .i64 x, .int .i64 y] 50)) (.int .i64 x) 3 j u h; rw [World.size_alloc] at this; exact this) (by intro u hu; simp at hu; subst hu; rfl) (by unfold maxLen; omega) (by omega) (by simp; omega) ?_)
        | go_in)
      intro v3 w3 hown3 hgrow3 _ hblk3
      have F3 := two_first HTW.out hgrow3 hown3 (by simpa using hblk3) (y := .int .i64 y)
      obtain ⟨hy3, hb3, HF3⟩ := F3
      have hb3' := hbel.trans (hb3.mono (Nat.le_refl _))
      have hs3 := hb3'.size
      clear hown3 hgrow3 hblk3 hb3
      obtain ⟨g3, c3, rfl⟩ := ownsRow_succ' HF3.out.1
      go_wp2_with (first
        | (at_builtin; refine wpList_append_own_at _ rfl _ _ 32 rfl w.heap.size 3 i0 (.int .i64 0) 1 8 Tryd.underlying32 hi hz0 hz1 hz2 rfl (by decide) _ _ _ rfl (HF3.out.2.1.alloc _) ⟨w3.heap.size, 0, none⟩ 1 1 [.int .i64 y] rfl rfl (cell_one_new _ _ _) (by intro u hu; simp at hu; subst hu; rfl) (by unfold maxLen; omega) (by omega) (by simp; omega) ?_)
        | go_in)
      intro v4 w4 hown4 hgrow4 _ hblk4
      have F4 := hide (two_second HF3.out hgrow4 hown4 (by simpa using hblk4))
      have hb4 := hb3'.trans (below_app hs3 hgrow4 (fun g hg => (HF3.out.2.1.lt g hg).1))
      clear hown4 hgrow4 hblk4
      go_wp2
      go_roundw
      case rel => exact ⟨k + 1, by omega, by go_num, by rw [HT1.out, HT2.out]; simpa using F4.out, hb4⟩
      case measure => simp [intOf]; omega
    · obtain rfl : n = k := by omega
      have e1 : (ats l).take n = ats l := List.take_of_length_le (by rw [ats_len, HN.out]; omega)
      have e2 : (vals l).take n = vals l := List.take_of_length_le (by rw [vals_len, HN.out]; omega)
      rw [e1, e2] at htwo
      have hltI : ¬ (n : Int) < (n : Int) := by omega
      have HTW := hide htwo
      clear e1 e2 htwo
      go_wp2
      go_ret2
      exact ⟨_, _, rfl, HTW.out, hbel⟩
end Go.Proofs.YtapffbbmofhpoaaDoor.L1
