/-
  Contracts of the laws' own helpers at polls without letters and leaders: laws.eqPoll, laws.markPoll, laws.heldPoll; ints in memory of their own.
-/
import Derived.Test.YtapffbbmofhpobcL8New
import Derived.Test.YtapffbbmofhpobcL8NdEq
import Derived.Test.YtapffbbmofhpobcL8NdHeld
import Derived.Test.YtapffbbmofhpobcL8Nil
namespace Go.Proofs.Ytapffbbmofhpobc.L8
open Go.RowKit L1 L4
set_option linter.unusedVariables false

/-- Ints that lie in memory of their own. -/
structure OwI (w : World) (base : Nat) (v : Value) (n : Nat) (xs : List Int) : Prop where
  row : w.ownsRow base 3 1 v n (xs.map (Value.int .i64))
theorem OwI.below {w w' : World} {base n : Nat} {v : Value} {xs : List Int} (h : OwI w base v n xs) (hb : Below w.heap.size w w') : OwI w' base v n xs := ⟨own_belowT h.row hb⟩
theorem OwI.sl {w : World} {base n cap : Nat} {a : Option Addr} {xs : List Int} (h : OwI w base (.slice a n cap) n xs) : Sl w a xs := own_slI h.row
theorem markIntS_own (base hi : Nat) (v : Value) (xs : List Int) (n : Nat) (w : World) (c : Int) (hc0 : 0 ≤ c) (hc1 : c ≤ 4294967296) (hn2 : n ≤ 1048576) (hhi : ∀ g, v.ownBlock = some g → g < hi) (ho : OwI w base v n xs) :
    Calls Try.prog 14 #[v, .int .i64 c] w fun e w' => e = .returned (.int .i64 (c + (n : Int))) ∧ OwI w' base v n (mkC c n) ∧ Only base hi w w' :=
  (markIntS_from base v xs n w c hc0 hc1 hn2 ho.row).mono fun e w' ⟨h1, h2, h3, h4⟩ => ⟨h1, ⟨h2⟩, (Only.refl _ _ _).grown h4 (fun g hg => ⟨(own_lt ho.row g hg).1, hhi g hg⟩)⟩
theorem blkq (w : World) (x : Obj) {w' : World} (hb : Below (w.alloc x).heap.size (w.alloc x) w') : w'.heap[w.heap.size]? = some x := (hb.block w.heap.size (by simp)).trans (blk_new _ _)

set_option maxRecDepth 100000 in
set_option maxHeartbeats 1000000 in
theorem eqPoll_of (a1 a2 b1 b2 e1 e2 : Option Addr) (n m l c1 c2 d1 d2 f1 f2 : Nat) (w : World)
    (hN : ∀ wx, Below w.heap.size w wx → Calls Try.prog 40 #[.slice a1 n c1, .slice a2 n c2] wx fun e w' => e = .returned (.bool true) ∧ Below wx.heap.size wx w')
    (hL : ∀ wx, Below w.heap.size w wx → Calls Try.prog 41 #[.slice b1 m d1, .slice b2 m d2] wx fun e w' => e = .returned (.bool true) ∧ Below wx.heap.size wx w')
    (hD : ∀ wx, Below w.heap.size w wx → Calls Try.prog 42 #[.slice e1 l f1, .slice e2 l f2] wx fun e w' => e = .returned (.bool true) ∧ Below wx.heap.size wx w') :
    Calls Try.prog 12 #[.agg #[.slice a1 n c1, .slice b1 m d1, .slice e1 l f1], .agg #[.slice a2 n c2, .slice b2 m d2, .slice e2 l f2]] w fun e w' => e = .returned (.bool true) ∧ Below w.heap.size w w' := by
  have CN := hide hN
  have CL := hide hL
  have CD := hide hD
  clear hN hL hD
  go_enter Try.func12, Try.ntmps12
  go_wp2_with fail
  refine (CN.out _ (((Below.refl _ _).alloc (Nat.le_refl _) _).alloc (by simp) _)).mono ?_
  rintro e w1 ⟨rfl, hb⟩
  have B1 := hide ((((Below.refl w.heap.size w).alloc (Nat.le_refl _) (.cells #[.slice a1 n c1, .slice b1 m d1, .slice e1 l f1] 27 (0, 0))).alloc (by simp) (.cells #[.slice a2 n c2, .slice b2 m d2, .slice e2 l f2] 27 (0, 0))).trans (hb.mono (by simp; omega)))
  obtain ⟨k0, k1, k2, _, _, _⟩ := blkP ((hb.block w.heap.size (by simp; omega)).trans (blk_first w _ _))
  obtain ⟨l0, l1, l2, _, _, _⟩ := blkP ((hb.block (w.heap.size + 1) (by simp)).trans (blk_second w _ _))
  clear hb
  go_wp2_with fail
  refine (CL.out _ B1.out).mono ?_
  rintro e w2 ⟨rfl, hb⟩
  have B2 := hide (B1.out.trans (hb.mono B1.out.size))
  have m2 := (hb.cell (p := ⟨w.heap.size, 2, none⟩) (blk_lt k2)).trans k2
  have n2 := (hb.cell (p := ⟨w.heap.size + 1, 2, none⟩) (blk_lt l2)).trans l2
  clear hb k0 k1 k2 l0 l1 l2
  go_wp2_with fail
  refine (CD.out _ B2.out).mono ?_
  rintro e w3 ⟨rfl, hb⟩
  have B3 := hide (B2.out.trans (hb.mono B2.out.size))
  clear hb
  go_wp2
  go_ret
  exact ⟨rfl, B3.out⟩

theorem eqPoll_new (a b : Option Addr) (L : List Nd) (n c1 c2 : Nat) (w : World) (hn : L.length = n) (ha : SlN w a L) (hb : SlN w b L) (hn2 : n ≤ 1048576) (hsz : ∀ i, i < n → (gn L i).h.length ≤ 1048576) :
    Calls Try.prog 12 #[.agg #[.slice a n c1, .slice none 0 0, .slice none 0 0], .agg #[.slice b n c2, .slice none 0 0, .slice none 0 0]] w fun e w' => e = .returned (.bool true) ∧ Below w.heap.size w w' :=
  eqPoll_of _ _ _ _ _ _ _ _ _ _ _ _ _ _ _ _ (fun wx hx => eqNodeS_same a b L n c1 c2 wx hn (ha.below hx) (hb.below hx) hn2 hsz)
    (fun wx _ => (eqLetterS_nil wx).mono fun e w' ⟨h1, h2⟩ => ⟨h1, by rw [← h2]; exact Below.refl _ _⟩) (fun wx _ => (eqIntSS_nil wx).mono fun e w' ⟨h1, h2⟩ => ⟨h1, by rw [← h2]; exact Below.refl _ _⟩)

set_option maxRecDepth 100000 in
set_option maxHeartbeats 1000000 in
theorem markPoll_new (base hi : Nat) (v : Value) (n : Nat) (M : List NV) (L : List Nd) (w : World) (hML : nds M = L) (hn2 : n ≤ 1048576) (hk : ∀ i, i ≤ n → kn 1 L i ≤ 2147483648) (hX : ∀ i, i < n → (gn L i).h.length ≤ 1048576) (hin : InN hi v n M) (ho : OwN w base v n M) :
    Calls Try.prog 15 #[.agg #[v, .slice none 0 0, .slice none 0 0], .int .i64 1] w fun e w' => e = .returned (.int .i64 (kn 1 L n)) ∧ (∃ M', nds M' = mkns 1 L ∧ OwN w' base v n M') ∧ Only base hi w w' := by
  have C := hide (fun wx (ho : OwN wx base v n M) => markNodeS_any 1 (by omega) base hi v n M L wx hML hn2 hk hX hin ho)
  have O := hide ho
  have HHI := hide hin
  have hsz : ∀ g, v.ownBlock = some g → g < w.heap.size := fun g hg => (own_lt ho.row g hg).2
  have hszi : ∀ i, i < n → ∀ g, (M.getD i eNV).2.ownBlock = some g → g < w.heap.size := fun i hi g hg => (own_lt (ho.idx i hi) g hg).2
  -- the box lies outside of what is marked
  have C' := hide (fun wx (ho : OwN wx base v n M) => markNodeS_any 1 (by omega) base w.heap.size v n M L wx hML hn2 hk hX ⟨hsz, hszi⟩ ho)
  obtain ⟨a, cap, rfl, _⟩ := ho.form
  obtain ⟨c, hc⟩ : ∃ c, c = kn 1 L n := ⟨_, rfl⟩
  rw [← hc] at C C' ⊢
  have both : Hid (∀ wx, OwN wx base (.slice a n cap) n M → Calls Try.prog 43 #[.slice a n cap, .int .i64 1] wx fun e w' => e = .returned (.int .i64 c) ∧ (∃ M', nds M' = mkns 1 L ∧ OwN w' base (.slice a n cap) n M') ∧ Only base (min hi w.heap.size) wx w') := fun wx hx => by
    rw [hc]
    exact markNodeS_any 1 (by omega) base (min hi w.heap.size) (.slice a n cap) n M L wx hML hn2 hk hX ⟨fun g hg => Nat.lt_min.2 ⟨hin.row g hg, hsz g hg⟩, fun i hi g hg => Nat.lt_min.2 ⟨hin.idx i hi g hg, hszi i hi g hg⟩⟩ hx
  clear ho hML hk hX hin hc C C' hsz hszi HHI
  go_enter Try.func15, Try.ntmps15
  go_wp2_with fail
  refine (both.out _ (O.out.below ((Below.refl _ _).alloc (Nat.le_refl _) _))).mono ?_
  rintro e w1 ⟨rfl, hM, hon⟩
  obtain ⟨k0, k1, k2, _, _, _⟩ := blkP ((hon.block w.heap.size (by simp) (.inr (Nat.min_le_right _ _))).trans (blk_new _ _))
  have H := hide (And.intro hM (show Only base hi w w1 from ⟨hon.os, hon.tape, hon.output, Nat.le_trans (by simp) hon.size, fun k hk ho => (hon.block k (by simp; omega) (by have := Nat.min_le_left hi w.heap.size; omega)).trans (((Below.refl w.heap.size w).alloc (Nat.le_refl _) _).block k hk)⟩))
  clear hM hon
  go_wp2_with fail
  refine (markLetterS_nil c _).mono ?_
  rintro e w2 ⟨rfl, rfl⟩
  go_wp2_with fail
  refine (markIntSS_nil c _).mono ?_
  rintro e w2 ⟨rfl, rfl⟩
  go_wp2
  go_ret
  exact ⟨rfl, H.out⟩

set_option maxRecDepth 100000 in
set_option maxHeartbeats 1000000 in
theorem heldPoll_new (a : Option Addr) (n cap : Nat) (L : List Nd) (w : World) (hLn : L.length = n) (hn2 : n ≤ 1048576) (hk : ∀ i, i ≤ n → kn 1 L i ≤ 2147483648) (hX : ∀ i, i < n → (gn L i).h.length ≤ 1048576) (hs : SlN w a (mkns 1 L)) :
    Calls Try.prog 16 #[.agg #[.slice a n cap, .slice none 0 0, .slice none 0 0], .int .i64 1] w fun e w' => e = .returned (.int .i64 (kn 1 L n)) ∧ Below w.heap.size w w' := by
  have C := hide (fun wx hs => heldNodeS_any 1 (by omega) a n cap L wx hLn hn2 hk hX hs)
  have HS := hide hs
  have hpos := kn_pos 1 (by omega) L n
  obtain ⟨c, hc⟩ : ∃ c, c = kn 1 L n := ⟨_, rfl⟩
  rw [← hc] at C hpos ⊢
  have h0 : ¬ c < 0 := by omega
  clear hs hLn hk hX hc
  go_enter Try.func16, Try.ntmps16
  go_wp2_with fail
  refine (C.out _ (HS.out.below ((Below.refl _ _).alloc (Nat.le_refl _) _))).mono ?_
  rintro e w1 ⟨rfl, hb1⟩
  have B1 := hide (((Below.refl w.heap.size w).alloc (Nat.le_refl _) (.cells #[.slice a n cap, .slice none 0 0, .slice none 0 0] 27 (0, 0))).trans (hb1.mono (by simp)))
  obtain ⟨k0, k1, k2, _, _, _⟩ := blkP (blkq _ _ hb1)
  clear hb1
  go_wp2_with fail
  refine (heldLetterS_nil c _).mono ?_
  rintro e w2 ⟨rfl, rfl⟩
  go_wp2_with fail
  refine (heldIntSS_nil c _).mono ?_
  rintro e w2 ⟨rfl, rfl⟩
  go_wp2
  go_ret
  exact ⟨rfl, B1.out⟩
end Go.Proofs.Ytapffbbmofhpobc.L8
