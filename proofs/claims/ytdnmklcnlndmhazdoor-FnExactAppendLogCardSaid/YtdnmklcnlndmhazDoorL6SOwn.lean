/-
  Contract: spec.l6Own.
-/
import Derived.Test.YtdnmklcnlndmhazDoorL6Copy
namespace Go.Proofs.YtdnmklcnlndmhazDoor.L6
open Go.RowKit L1
set_option linter.unusedVariables false

theorem own_empty6 (w : World) (base : Nat) (hb : base ≤ w.heap.size) : (w.alloc (.cells #[] 3)).ownsRow base 3 1 (.slice (some ⟨w.heap.size, 0, none⟩) 0 0) 0 [] :=
  ⟨rfl, .inr ⟨w.heap.size, 0, #[], rfl, hb, by show (w.heap.push _)[w.heap.size]? = _; simp, Nat.le_refl _, by unfold maxLen; omega, rfl, rfl⟩⟩
theorem cell_three_new (w : World) (g : Nat) (hg : w.heap.size = g) (a b c : Value) (t : TypeId) : ∀ j u, [a, b, c][j]? = some u → (w.alloc (.cells #[a, b, c] t)).cell? ((⟨g, 0, none⟩ : Addr).add j) = some u := by
  subst hg
  intro j u h
  rw [addr_add]
  match j, h with
  | 0, h => simp at h; subst h; simp
  | 1, h => simp at h; subst h; simp
  | 2, h => simp at h; subst h; simp
  | j + 3, h => simp at h
theorem getD_app_lt (M : List PV) (q : PV) (i : Nat) (h : i < M.length) : (M ++ [q]).getD i eV = M.getD i eV := by simp [List.getD, List.getElem?_append_left h]
theorem getD_app_at (M : List PV) (q : PV) (n : Nat) (h : M.length = n) : (M ++ [q]).getD n eV = q := by subst h; simp [List.getD]
/-- One more piece. -/
theorem OwC.more {w w' : World} {base n : Nat} {v v' : Value} {M : List PV} {p : Pc} {u : Value} (h : OwC w base v n M) (hu : w.ownsRow base 3 1 u p.x.length (p.x.map (Value.int .i64)))
    (hnew : ∀ i, i < n → ∀ b, u.ownBlock = some b → (M.getD i eV).2.ownBlock ≠ some b) (hg : w.grownBy w' v.ownBlock) (hr : w'.ownsRow base 51 3 v' (n + 1) (flatC M ++ [.int .i64 p.f, .string p.s, u])) :
    OwC w' base v' (n + 1) (M ++ [(p, u)]) := by
  have hl := h.len
  have keep : ∀ {c m : Nat} {v2 : Value} {ys : List Value}, w.ownsRow base 3 c v2 m ys → w'.ownsRow base 3 c v2 m ys := fun hv =>
    own_keptC hv hg (fun b hb e => own_two h.row hv int_piece b e hb)
  refine ⟨by simp [hl], by rw [flatC_append]; exact hr, fun i hi => ?_, fun i j hij hj => ?_⟩
  · by_cases e : i = n
    · subst e
      rw [getD_app_at M _ _ hl]
      exact keep hu
    · rw [getD_app_lt M _ i (by omega)]
      exact keep (h.idx i (by omega))
  · intro b
    by_cases e : j = n
    · subst e
      rw [getD_app_at M _ _ hl, getD_app_lt M _ i (by omega)]
      intro h1 h2
      exact hnew i (by omega) b h2 h1
    · rw [getD_app_lt M _ i (by omega), getD_app_lt M _ j (by omega)]
      exact h.apart i j hij (by omega) b

set_option maxRecDepth 100000 in
set_option maxHeartbeats 4000000 in
theorem l6Own_any (a : Option Addr) (L : List Pc) (n cap : Nat) (B : Int) (w : World) (hn : L.length = n) (h20 : n ≤ 20) (hs : SlC w a L) (hX : ∀ i, i < n → (gc L i).x.length ≤ 60) :
    Calls Tryd.prog 35 #[.agg #[.slice a n cap, .int .i64 B]] w fun e w' => ∃ a' c', e = .returned (.agg #[.slice a' n c', .int .i64 B]) ∧ ∃ M, pcs M = L ∧ OwC w' w.heap.size (.slice a' n c') n M ∧ Below w.heap.size w w' := by
  obtain ⟨i0, hi, hz0, hz1, hz2⟩ := info_parts info_piece
  have HS := hide hs
  have HN := hide hn
  have HX := hide hX
  clear hs hn hX
  go_enter Tryd.func35, Tryd.ntmps35
  go_wp2
  go_loopw [12] (fun i wr => ∃ (k : Nat) (M : List PV) (a1 : Option Addr) (c1 : Nat), k ≤ n ∧ i = .int .i64 k ∧ Hid (OwC wr (w.heap.size + 3) (.slice a1 k c1) k M) ∧ Hid (pcs M = L.take k) ∧ Hid (wr.heap[w.heap.size + 2]? = some (.cells #[.slice a1 k c1, .int .i64 B] 29 (0, 0))) ∧ Hid (wr.heap[w.heap.size + 1]? = some (.cells #[.slice none 0 0, .int .i64 0] 29 (0, 0))) ∧ Below w.heap.size w wr) (fun i _ => n - (intOf i).toNat)
  case atStart =>
    obtain ⟨b3, b2, b1, bz⟩ := blk_three w (.cells #[.slice a n cap, .int .i64 B] 29 (0, 0)) (.cells #[.slice none 0 0, .int .i64 0] 29 (0, 0)) (.cells #[.slice none 0 0, .int .i64 B] 29 (0, 0))
    exact ⟨0, [], none, 0, Nat.zero_le _, rfl, ⟨rfl, World.ownsRow_nil _ _ _ _, fun i hi => absurd hi (Nat.not_lt_zero _), fun i j _ hj => absurd hj (Nat.not_lt_zero _)⟩, rfl, b3, b2, (((Below.refl _ _).alloc (Nat.le_refl _) _).alloc (by simp) _).alloc (by simp; omega) _⟩
  case round =>
    obtain ⟨k, M, a1, c1, hk, rfl, HO, HP, HB2, HB1, hbel⟩ := hrel
    by_cases hlt : k < n
    · obtain ⟨b, off, rfl, ai, ci, hat⟩ := HS.out.below hbel k (by rw [HN.out]; exact hlt)
      have hltI : (k : Int) < (n : Int) := by omega
      have hxl := HX.out k hlt
      have htk : L.take (k + 1) = L.take k ++ [gc L k] := by
        rw [List.take_succ_eq_append_getElem (show k < L.length by rw [HN.out]; exact hlt)]
        simp [gc, List.getD, List.getElem?_eq_getElem (show k < L.length by rw [HN.out]; exact hlt)]
      have d1 := hat.f
      have d2 := hat.s
      have d3 := hat.x
      have d4 := hat.l
      rw [show L.getD k eC = gc L k from rfl] at d1 d2 d3 d4
      obtain ⟨p, hp⟩ : ∃ p, p = gc L k := ⟨_, rfl⟩
      rw [← hp] at d1 d2 d3 d4 hxl htk
      obtain ⟨f, s, x⟩ := p
      simp only at d1 d2 d3 d4 hxl
      obtain ⟨m, hm⟩ : ∃ m, m = x.length := ⟨_, rfl⟩
      rw [← hm] at d3 hxl
      have hsz : w.heap.size + 3 ≤ wr.heap.size := (Array.getElem?_eq_some_iff.1 HB2.out).1
      have HD4 := hide d4
      have HMX := hide hm
      have HTK := hide htk
      have BB := hide hbel
      clear hat d4 hp hm htk hbel
      go_wp2_with (first
        | (at_builtin; refine wpList_append_copy rfl _ _ rfl (w.heap.size + 3) (some ⟨wr.heap.size + 1, 0, none⟩) ai 0 m ci x HMX.out.symm (by omega) rfl (by have := own_empty6 (wr.alloc (.cells #[.int .i64 f, .string s, .slice ai m ci] 51 (0, 0))) (w.heap.size + 3) (by simp; omega); rw [World.size_alloc] at this; exact this) rfl (HD4.out.below (((Below.refl _ _).alloc (Nat.le_refl _) _).alloc (by simp) _)) (by simp; omega) ?_)
        | go_in)
      intro a' c' w6 h6 g6 hat6
      have hal := ((Below.refl wr.heap.size wr).alloc (Nat.le_refl _) (.cells #[.int .i64 f, .string s, .slice ai m ci] 51 (0, 0))).alloc (by simp) (.cells #[] 3 (0, 0))
      have hgs := g6.size
      simp at hgs
      have hb6 : Below wr.heap.size wr w6 := ⟨g6.os.trans hal.os, g6.tape.trans hal.tape, g6.output.trans hal.output, by omega, fun q hq => (g6.block q (by simp; omega) (by simp [Value.ownBlock]; omega)).trans (hal.block q hq)⟩
      have GP : w6.heap[wr.heap.size]? = some (.cells #[.int .i64 f, .string s, .slice ai m ci] 51 (0, 0)) := (g6.block wr.heap.size (by simp; omega) (by simp [Value.ownBlock])).trans ((((Below.refl (wr.alloc (.cells #[.int .i64 f, .string s, .slice ai m ci] 51 (0, 0))).heap.size _).alloc (Nat.le_refl _) _).block wr.heap.size (by simp)).trans (blk_new _ _))
      obtain ⟨e0, e1, e2, e3, e4, e5⟩ := blk3 GP
      have hub : ∀ q, (Value.slice a' m c').ownBlock = some q → wr.heap.size + 1 ≤ q := fun q hq => by
        rcases hat6 with h | h
        · rw [h] at hq; simp [Value.ownBlock] at hq; omega
        · rw [h] at hq; simp at hq; omega
      -- the piece's own box is written into
      have g7 : w6.grownBy (w6.setCell ⟨wr.heap.size, 2, none⟩ (.slice a' m c')) (some wr.heap.size) := ⟨rfl, rfl, rfl, by simp, fun q hq hne => Below.heap_setCell _ _ _ _ (fun e => hne (by rw [e]))⟩
      have O6 := HO.out.below hb6
      have O7 : OwC (w6.setCell ⟨wr.heap.size, 2, none⟩ (.slice a' m c')) (w.heap.size + 3) (.slice a1 k c1) k M := by
        refine ⟨O6.len, own_keptC O6.row g7 (fun q hq e => ?_), fun i hi => own_keptC (O6.idx i hi) g7 (fun q hq e => ?_), O6.apart⟩
        · have := (own_ltC HO.out.row q hq).2
          cases e
          omega
        · have := (own_ltC (HO.out.idx i hi) q hq).2
          cases e
          omega
      have u7 : (w6.setCell ⟨wr.heap.size, 2, none⟩ (.slice a' m c')).ownsRow (w.heap.size + 3) 3 1 (.slice a' m c') m (x.map (Value.int .i64)) := own_keptC h6 g7 (fun q hq e => by
        have := hub q hq
        cases e
        omega)
      have GO6 : w6.heap[w.heap.size + 2]? = some (.cells #[.slice a1 k c1, .int .i64 B] 29 (0, 0)) := (hb6.block (w.heap.size + 2) (by omega)).trans HB2.out
      have GR6 : w6.heap[w.heap.size + 1]? = some (.cells #[.slice none 0 0, .int .i64 0] 29 (0, 0)) := (hb6.block (w.heap.size + 1) (by omega)).trans HB1.out
      have o1 : (w6.setCell ⟨wr.heap.size, 2, none⟩ (.slice a' m c')).cell? ⟨w.heap.size + 2, 0, none⟩ = some (.slice a1 k c1) := grown_cell g7 ⟨w.heap.size + 2, 0, none⟩ (blkp GO6).1 (by simp; omega)
      have HO7 := hide O7
      have HU7 := hide u7
      have HG7 := hide g7
      have HUB := hide hub
      have HGO := hide GO6
      have HGR := hide GR6
      have HB6 := hide hb6
      have hs6 : wr.heap.size + 2 ≤ w6.heap.size := by omega
      have HOL := hide HO.out.inC
      clear h6 g6 hat6 hal GP O6 O7 u7 g7 hub GO6 GR6 hb6 hgs
      go_wp2_with (first
        | (at_builtin; refine wpList_append_own_at _ rfl _ _ 27 rfl (w.heap.size + 3) 51 i0 (.agg #[.int .i64 0, .string ByteArray.empty, .slice none 0 0]) 3 48 Tryd.underlying27 hi hz0 hz1 hz2 rfl (by decide) _ _ _ rfl (HO7.out.row.alloc _) ⟨w6.heap.size, 0, none⟩ 1 1 [.int .i64 f, .string s, .slice a' m c'] rfl rfl (cell_three_new _ _ (by simp) _ _ _ _) (by intro u hu; simp at hu; rcases hu with rfl | rfl | rfl <;> rfl) (by unfold maxLen; omega) (by omega) (by simp; omega) ?_)
        | go_in)
      intro v8 w8 h8 g8 _ hat8
      have O8 : OwC w8 (w.heap.size + 3) v8 (k + 1) (M ++ [((⟨f, s, x⟩ : Pc), .slice a' m c')]) := by
        refine (HO7.out.below ((Below.refl _ _).alloc (Nat.le_refl _) _)).more (w' := w8) (by show World.ownsRow _ _ _ _ _ x.length _; rw [← HMX.out]; exact own_belowC HU7.out ((Below.refl _ _).alloc (Nat.le_refl _) _)) (fun i hi q hq e => ?_) g8 h8
        have h1 := HUB.out q hq
        have h2 := HOL.out.idx i hi q e
        omega
      have gsz := g8.size
      simp at gsz
      have nob : ∀ q, q < w.heap.size + 3 → some q ≠ (Value.slice a1 k c1).ownBlock := fun q hq e => by
        have := (own_ltC HO7.out.row q e.symm).1
        omega
      have blk : ∀ q, q < w.heap.size + 3 → w8.heap[q]? = w6.heap[q]? := fun q hq =>
        (g8.block q (by simp; omega) (nob q hq)).trans ((((Below.refl (w6.setCell ⟨wr.heap.size, 2, none⟩ (.slice a' m c')).heap.size _).alloc (Nat.le_refl _) _).block q (by simp; omega)).trans (Below.heap_setCell _ _ _ _ (show q ≠ wr.heap.size by omega)))
      have GO8 := (blk (w.heap.size + 2) (by omega)).trans HGO.out
      obtain ⟨y0, y1, y2, y3⟩ := blkp GO8
      have GR8 := (blk (w.heap.size + 1) (by omega)).trans HGR.out
      have B8 : Below w.heap.size w w8 := ⟨g8.os.trans (HB6.out.os.trans BB.out.os), g8.tape.trans (HB6.out.tape.trans BB.out.tape), g8.output.trans (HB6.out.output.trans BB.out.output), by have := BB.out.size; omega, fun q hq => (blk q (by omega)).trans ((HB6.out.block q (by omega)).trans (BB.out.block q hq))⟩
      obtain ⟨a8, c8, rfl, _⟩ := O8.form
      have R : ∃ (k' : Nat) (M' : List PV) (a1' : Option Addr) (c1' : Nat), k' ≤ n ∧ Value.int .i64 ((k : Int) + 1) = .int .i64 k' ∧ Hid (OwC (w8.setCell ⟨w.heap.size + 2, 0, none⟩ (.slice a8 (k + 1) c8)) (w.heap.size + 3) (.slice a1' k' c1') k' M') ∧ Hid (pcs M' = L.take k') ∧ Hid ((w8.setCell ⟨w.heap.size + 2, 0, none⟩ (.slice a8 (k + 1) c8)).heap[w.heap.size + 2]? = some (.cells #[.slice a1' k' c1', .int .i64 B] 29 (0, 0))) ∧ Hid ((w8.setCell ⟨w.heap.size + 2, 0, none⟩ (.slice a8 (k + 1) c8)).heap[w.heap.size + 1]? = some (.cells #[.slice none 0 0, .int .i64 0] 29 (0, 0))) ∧ Below w.heap.size w (w8.setCell ⟨w.heap.size + 2, 0, none⟩ (.slice a8 (k + 1) c8)) := by
        refine ⟨k + 1, _, a8, c8, by omega, by simp, O8.setC ⟨w.heap.size + 2, 0, none⟩ _ (Nat.lt_succ_self _), ?_, ?_, (Below.heap_setCell _ _ _ _ (show w.heap.size + 1 ≠ w.heap.size + 2 by omega)).trans GR8, B8.setCell (p := ⟨w.heap.size + 2, 0, none⟩) (by show w.heap.size ≤ w.heap.size + 2; omega) _⟩
        · show pcs (M ++ [_]) = _
          rw [HTK.out, ← HP.out]
          simp
        · show (w8.setCell ⟨w.heap.size + 2, 0, none⟩ (.slice a8 (k + 1) c8)).heap[w.heap.size + 2]? = _
          rw [setCell_eq_setRow w8 (w.heap.size + 2) 0 _ 29 (0, 0) _ GO8, setRow_heap w8 (w.heap.size + 2) _ _ 29 _ GO8]
          rfl
      have HRR := hide R
      clear R O8 gsz nob blk GO8 GR8 B8 h8 g8 hat8
      go_wp2
      go_roundw
      case rel => exact HRR.out
      case measure => simp [intOf]; omega
    · obtain rfl : k = n := by omega
      have hltI : ¬ (k : Int) < (k : Int) := by omega
      obtain ⟨z0, z1, z2, z3⟩ := blkp HB1.out
      obtain ⟨y0, y1, _, _⟩ := blkp HB2.out
      have HPL : Hid (pcs M = L) := by show pcs M = L; rw [HP.out]; exact List.take_of_length_le (by rw [HN.out]; exact Nat.le_refl _)
      have BB := hide hbel
      clear hbel
      go_wp2
      refine bodyPost_ret (v := .agg #[.slice a1 k c1, .int .i64 B]) (by simp [results, Tryd.f35, go_sem, z0, z1]) rfl ⟨_, _, rfl, M, HPL.out, ?_, ?_⟩
      · have z : w.heap.size + 1 < w.heap.size + 3 := by omega
        exact ((HO.out.setC ⟨_, _, none⟩ _ z).setC ⟨_, _, none⟩ _ z).base (by omega)
      · exact (BB.out.setCell (p := ⟨_, _, none⟩) (by show w.heap.size ≤ w.heap.size + 1; omega) _).setCell (p := ⟨_, _, none⟩) (by show w.heap.size ≤ w.heap.size + 1; omega) _
end Go.Proofs.YtdnmklcnlndmhazDoor.L6
